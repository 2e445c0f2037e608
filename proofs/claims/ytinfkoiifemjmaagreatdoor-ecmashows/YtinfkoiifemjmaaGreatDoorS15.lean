/- EnD, EnM -/
import Derived.Test.YtinfkoiifemjmaaGreatDoorS08
import Derived.Test.YtinfkoiifemjmaaGreatDoorS13
import Derived.Test.YtinfkoiifemjmaaGreatDoorS06
import Derived.Deep.LoopGhost
import Derived.Deep.RegionHeld3
import Derived.Deep.Cut
import Derived.Test.YtinfkoiifemjmaaGreatDoorS09
import Derived.Test.YtinfkoiifemjmaaGreatDoorS14
namespace Go.Proofs.YtinfkoiifemjmaaGreatDoor
open Go.RowKit
set_option linter.unusedVariables false

theorem lit_arg9 (w : World) {x : Int} (h : 0 ≤ x ∧ x < 4294967296) : Arg (w.alloc (.cells #[.int .u32 x] 96)) (.slice (some ⟨w.heap.size, 0, none⟩) 1 1) x 1 := by
  have hr : Row .u32 96 (w.alloc (.cells #[.int .u32 x] 96)) w.heap.size [x] := heap_alloc_new _ _
  refine ⟨[x], ⟨some ⟨w.heap.size, 0, none⟩, 1, rfl, by simp, by unfold maxLen; simp, ?_⟩, ?_, ?_, by simp⟩
  · have := row_cells (off := 0) (n := 1) hr (by simp)
    simpa using this
  · intro i
    match i with
    | 0 => simpa [Nt.lb] using h
    | i + 1 => simp [Nt.lb]
  · simp [Nt.val, Nt.vt, Nt.lb, Nt.pw]
abbrev cq1 (x : Int) : Obj := .cells #[.int .u32 x] 96
theorem bl1 (w : World) (o : Obj) : Below w.heap.size w (w.alloc o) := (Below.refl _ _).alloc (Nat.le_refl _) _
theorem bl1d (w : World) (o : Obj) : Below w.heap.size w (w.alloc o).drew := (bl1 w o).drew
theorem bl2 (w : World) (o o' : Obj) : Below w.heap.size w ((w.alloc o).alloc o') := below_trans (bl1 w o) (bl1 _ o')
theorem bl2d (w : World) (o o' : Obj) : Below w.heap.size w ((w.alloc o).alloc o').drew := (bl2 w o o').drew
theorem un_1 (w : World) (x : Int) (h0 : 0 ≤ x) (h1 : x < 4294967296) : Arg (w.alloc (cq1 x)) (.slice (some ⟨w.heap.size, 0, none⟩) 1 1) x 1 := lit_arg9 w ⟨h0, h1⟩
theorem un_1d (w : World) (x : Int) (h0 : 0 ≤ x) (h1 : x < 4294967296) : Arg (w.alloc (cq1 x)).drew (.slice (some ⟨w.heap.size, 0, none⟩) 1 1) x 1 := (un_1 w x h0 h1).below (Below.refl _ _).drew
theorem un_2 (w : World) (o : Obj) (x : Int) (h0 : 0 ≤ x) (h1 : x < 4294967296) : Arg ((w.alloc (cq1 x)).alloc o) (.slice (some ⟨w.heap.size, 0, none⟩) 1 1) x 1 := (un_1 w x h0 h1).below (bl1 _ _)
theorem un_2d (w : World) (o : Obj) (x : Int) (h0 : 0 ≤ x) (h1 : x < 4294967296) : Arg ((w.alloc (cq1 x)).alloc o).drew (.slice (some ⟨w.heap.size, 0, none⟩) 1 1) x 1 := (un_2 w o x h0 h1).below (Below.refl _ _).drew
theorem un_3 (w : World) (o : Obj) (x : Int) (h0 : 0 ≤ x) (h1 : x < 4294967296) : Arg ((w.alloc o).alloc (cq1 x)) (.slice (some ⟨w.heap.size + 1, 0, none⟩) 1 1) x 1 := by
  have := un_1 (w.alloc o) x h0 h1
  rwa [show (w.alloc o).heap.size = w.heap.size + 1 by simp] at this
theorem un_3d (w : World) (o : Obj) (x : Int) (h0 : 0 ≤ x) (h1 : x < 4294967296) : Arg ((w.alloc o).alloc (cq1 x)).drew (.slice (some ⟨w.heap.size + 1, 0, none⟩) 1 1) x 1 := (un_3 w o x h0 h1).below (Below.refl _ _).drew
theorem canon_short {zs : List Int} (hc : Nt.Canon zs) (k : Nat) : zs.length ≤ k ↔ Nt.val zs < Nt.pw k := by
  refine ⟨fun h => ?_, fun h => ?_⟩
  · have h1 := Nt.val_lt hc.1
    have h2 := Nt.pw_mono h
    omega
  · rcases Nat.lt_or_ge k zs.length with c | c
    · exfalso
      have h1 := Nt.canon_low hc (by intro e; subst e; simp at c)
      have h2 := Nt.pw_mono (m := k) (n := zs.length - 1) (by omega)
      omega
    · exact c
theorem num_form9 {B : Nat} {w : World} {v : Value} {n : Int} {k : Nat} (h : Num B w v n k) (hn : n < Nt.pw 120) : ∃ a l, v = .slice a l l ∧ l ≤ 120 ∧ Num B w v n 120 := by
  obtain ⟨zs, ⟨ao, h1, h0⟩, h2, h3, h4⟩ := h
  have hl : zs.length ≤ 120 := (canon_short h2 120).2 (by rw [h3]; exact hn)
  exact ⟨ao, zs.length, h1, hl, zs, ⟨ao, h1, h0⟩, h2, h3, hl⟩
theorem dg_take_le9 {es : List Int} (h : Dgt es) (k : Nat) : 0 ≤ dg (es.take k) ∧ dg (es.take k) ≤ dg es := by
  have h1 := dg_append (es.take k) (es.drop k)
  rw [List.take_append_drop] at h1
  have h2 := (dg_range (h.take k)).1
  have h3 := (dg_range (h.drop k)).1
  have h4 := tn_pos (es.drop k).length
  have h5 : dg (es.take k) * 1 ≤ dg (es.take k) * tn (es.drop k).length := Int.mul_le_mul_of_nonneg_left (by omega) h2
  omega

set_option maxRecDepth 100000 in
set_option maxHeartbeats 8000000 in
theorem rread8 {w : World} {es : List Int} {s : ByteArray} (hd : Dgt es) (hs : s = strOfNums es) (hl : es.length ≤ 1152) (h0 : 0 < es.length) (hl0 : Nt.lb es 0 ≠ 48) :
    Calls Tryz.prog 122 #[.string s] w fun e w' => ∃ v, e = .returned (.tuple #[v, .bool true]) ∧ Num w.heap.size w' v (dg es) 120 ∧ Below w.heap.size w w' := by
  obtain ⟨N, hN⟩ : ∃ N, es.length = N := ⟨_, rfl⟩
  have hsz : s.size = N := by rw [hs, strOfNums_size, hN]
  have Hix := hide (show ∀ p (h : p < s.size), (((s[p]'h).toNat : Nat) : Int) = Nt.lb es p from fun p h => by subst hs; exact txt_at h hd.byt)
  have HD := hide hd
  have HSM := hide (fun k => show dg (es.take k) < Nt.pw 120 from Int.lt_of_le_of_lt (dg_take_le9 hd k).2 (dg_limbs hd hl))
  have HSA := hide (show dg es < Nt.pw 120 from dg_limbs hd hl)
  rw [hN] at hl h0
  have hp0 : 0 < s.size := by omega
  have hx0 := Hix.out 0 hp0
  have hn0 : ((N : Int) == 0) = false := by simp; omega
  have hN0 : (0 : Int) < (N : Int) := by omega
  have HN := hide hN
  have hz : (Nt.lb es 0 == 48) = false := by simp [hl0]
  obtain ⟨d0, hd0⟩ : ∃ d, Nt.lb es 0 = d := ⟨_, rfl⟩
  rw [hd0] at hx0 hz
  clear hs hd hN hl0 hd0
  go_enter Tryz.func122, Tryz.ntmps122
  go_wp2
  clear hx0 hz hn0
  go_loopg [5] N (fun c i wr => ∃ k : Nat, k ≤ N ∧ c = N - k ∧ i = .int .i64 k ∧ w = wr)
  case atStart => exact ⟨0, by omega, rfl, rfl, rfl⟩
  case round =>
    obtain ⟨k, hk, hgk, rfl, hw⟩ := hrel
    subst hw
    by_cases hkl : k < N
    · have hps : k < s.size := by omega
      have hx := Hix.out k hps
      have hby := HD.out _ (lb_in (p := k) (by rw [HN.out]; exact hkl))
      obtain ⟨d, hdd⟩ : ∃ d, Nt.lb es k = d := ⟨_, rfl⟩
      rw [hdd] at hx hby
      clear hdd
      have q4 : (k : Int) < (N : Int) := by omega
      obtain ⟨y0, y1⟩ := hby
      have c1 : ¬ d < 48 := by omega
      have c2 : ¬ 57 < d := by omega
      go_wp2
      go_roundg (N - (k + 1))
      case measure => omega
      case rel => exact ⟨k + 1, by omega, rfl, by simp, rfl⟩
    · have hke : k = N := by omega
      subst hke
      clear hgk hk hkl
      go_wp2
      go_loopg [4, 6] k (fun c va i wr => ∃ j : Nat, j ≤ k ∧ c = k - j ∧ i = .int .i64 j ∧ Num w.heap.size wr va (dg (es.take j)) 120 ∧ Below w.heap.size w wr)
      case atStart => exact ⟨0, by omega, rfl, rfl, by rw [List.take_zero]; exact ⟨[], ⟨none, rfl, by unfold maxLen; simp, fun h => absurd h (by simp)⟩, Nt.canon_nil, rfl, by simp⟩, Below.refl _ _⟩
      case round =>
        obtain ⟨j, hj, hgj, rfl, ha, hb⟩ := hrel
        have HA := hide ha.arg
        have HNA := hide ha
        obtain ⟨zs, ⟨ao, rfl, -⟩, -, -, z7⟩ := ha
        by_cases hjl : j < k
        · have hps : j < s.size := by omega
          have hx := Hix.out j hps
          have hb9 := HD.out _ (lb_in (p := j) (by rw [HN.out]; exact hjl))
          have hv := hide (dg_take (ds := es) (k := j) (by rw [HN.out]; exact hjl))
          have HM := hide (HSM.out (j + 1))
          obtain ⟨d, hdd⟩ : ∃ d, Nt.lb es j = d := ⟨_, rfl⟩
          rw [hdd] at hx hb9 hv
          clear hdd
          obtain ⟨x0, x1⟩ := hb9
          have q4 : (j : Int) < (k : Int) := by omega
          have wd : IntKind.u8.wrap (d - 48) = d - 48 := by rw [IntKind.wrap_u8]; omega
          have wd2 : IntKind.u32.wrap (d - 48) = d - 48 := by rw [IntKind.wrap_u32]; omega
          have T0 := hide (show (0 : Int) ≤ 10 ∧ (10 : Int) < 4294967296 by omega)
          have T1 := hide (show 0 ≤ d - 48 ∧ d - 48 < 4294967296 by omega)
          have Z7 := hide z7
          clear z7
          go_upto_region 12 with fail
          go_region_held3 (fun _ => True) (exact trivial)
            (first
              | (go_at_call 82; (refine (rmul_any (n := dg (es.take j)) (m := 10) ?_ ?_ (ka := 120) (kb := 1) ?_ ?_).mono ?_); (first | exact HA.out.below (bl1 _ _) | exact HA.out.below (bl1d _ _) | exact HA.out.below (bl2 _ _ _) | exact HA.out.below (bl2d _ _ _)); (first | exact un_1 _ 10 T0.out.1 T0.out.2 | exact un_1d _ 10 T0.out.1 T0.out.2 | exact un_2 _ _ 10 T0.out.1 T0.out.2 | exact un_2d _ _ 10 T0.out.1 T0.out.2 | exact un_3 _ _ 10 T0.out.1 T0.out.2 | exact un_3d _ _ 10 T0.out.1 T0.out.2); omega; omega; rintro r w2 ⟨x, rfl, hx2, b2⟩)
              | (go_at_call 126; (refine (radd_any (n := dg (es.take j) * 10) (m := d - 48) ?_ ?_ (ka := 122) (kb := 1) ?_ ?_).mono ?_); (first | exact hx2.arg | exact hx2.arg.below (bl1 _ _)); (first | exact un_1 _ (d - 48) T1.out.1 T1.out.2 | exact (un_2 _ _ (d - 48) T1.out.1 T1.out.2).below b2 | exact (un_2d _ _ (d - 48) T1.out.1 T1.out.2).below b2 | exact (un_3 _ _ (d - 48) T1.out.1 T1.out.2).below b2 | exact (un_3d _ _ (d - 48) T1.out.1 T1.out.2).below b2); omega; omega; rintro r w3 ⟨y, rfl, hy, b3⟩; have HYN := hide hy; obtain ⟨ya, yl, rfl, yl2, hy9⟩ := num_form9 hy (by rw [← hv.out]; exact HM.out); clear HYN; have HYN := hide hy9))
          all_goals (
            have K : Below wr.heap.size wr w3 := by first | exact below_trans (below_trans (below_trans (bl1d _ _) b2) (bl1 _ _)) b3 | exact below_trans (below_trans (bl2d _ _ _) b2) b3
            have LW := hide (show Num w.heap.size w3 (.slice ya yl yl) (dg (es.take (j + 1))) 120 from by rw [hv.out]; exact HYN.out.low (by have q1 := b2.size; have q2 := hb.size; simp at q1 ⊢; omega))
            have Fin := hide (below_trans hb K)
            have nl : decide ((262144 : Int) < (yl : Int)) = false := decide_eq_false (by omega)
            clear hx2 hy b2 b3 K hb HYN yl2
            go_wp2
            go_roundg (k - (j + 1))
            case measure => omega
            case rel => exact ⟨j + 1, by omega, rfl, by simp, LW.out, Fin.out⟩)
        · have hje : j = k := by omega
          subst hje
          have hfull : es.take j = es := List.take_of_length_le (by rw [HN.out]; omega)
          have LN := hide (show Num w.heap.size wr (.slice ao zs.length zs.length) (dg es) 120 by have := HNA.out; rwa [hfull] at this)
          have Fin := hide hb
          clear hb hfull z7
          go_wp2
          go_ret2
          exact ⟨_, rfl, LN.out, Fin.out⟩

end Go.Proofs.YtinfkoiifemjmaaGreatDoor

namespace Go.Proofs.YtinfkoiifemjmaaGreatDoor
open Go.RowKit
set_option linter.unusedVariables false

theorem near_up0 {F L I A r : Int} (hL : L < 0) (h : Near F L I A 0 r) : Near F L I (2 * A + 0) (((0 : Nat) : Int) - 1) r := by
  obtain ⟨h0, h1, hn⟩ := h
  refine ⟨h0, h1, fun B hB hBL => ?_⟩
  have e : sc (2 * A + 0) (((0 : Nat) : Int) - 1) B = sc A 0 B := by
    unfold sc
    rw [Int.add_zero, show (0 - B).toNat = ((((0 : Nat) : Int) - 1) - B).toNat + 1 by omega, p2]
    ac_rfl
  rw [e]
  exact hn B (by omega) hBL
theorem d8_up {F L I N r : Int} {j : Nat} (hF : 0 < F) (hL : L < 0) (h : Near F L I (N * 10 ^ j) 0 r) : DV F L I N j r := by
  have k := near_dn_up (e := 0) hF hL (near_up0 hL h)
  rw [show p2 0 = 1 from rfl, Int.mul_one] at k
  unfold DV
  rw [show ((j : Int)).toNat = j by omega, show (-(j : Int)).toNat = 0 by omega, tn_zero]
  exact k
theorem d8_dn {F L I N a rest mb r : Int} {j up : Nat} (hF : 0 < F) (hL : L ≤ 0) (ha : a = N * p2 up / 10 ^ j) (hr : rest = N * p2 up % 10 ^ j) (hmb : mb = if rest = 0 then 0 else 1) (hbig : 2 * F ≤ a) (h : Near F L I (2 * a + mb) (-(up : Int) - 1) r) : DV F L I N (-(j : Int)) r := by
  have D0 : (0 : Int) < 10 ^ j := Int.pow_pos (by decide)
  unfold DV
  rw [show (-(j : Int)).toNat = 0 by omega, show (-(-(j : Int))).toNat = j by omega, tn_zero, Int.mul_one]
  refine near_dn (a := a) (D := 10 ^ j) (rest := rest) (up := up) hF hL D0 (tn_pos j) (by rw [hr]; exact Int.emod_nonneg _ (by omega)) (by rw [hr]; exact Int.emod_lt_of_pos _ D0) hmb (fun _ => hbig) ?_ h
  have e : a * 10 ^ j + rest = N * p2 up := by rw [ha, hr, Int.mul_comm]; exact Int.mul_ediv_add_emod _ _
  rw [e]
  show N * p2 (-L).toNat * (10 ^ j * p2 up) = N * p2 up * (p2 (-L).toNat * 10 ^ j)
  ac_rfl

theorem p2_lt_of {a b : Nat} (h : p2 a < p2 b) : a < b := by
  rcases Nat.lt_or_ge a b with c | c
  · exact c
  · have := p2_mono c; omega
theorem d8_sizes {N D : Int} {ln ld up : Nat} (hN : IsLen N ln) (hD : IsLen D ld) (N0 : 0 < N) (D0 : 0 < D) (hup : (up : Int) = max 0 ((ld : Int) - ln + 70)) (hr : D ≤ N * p2 1150) (hn : ln ≤ 3840) :
    up ≤ 1221 ∧ p2 68 ≤ N * p2 up / D ∧ 0 ≤ N * p2 up / D ∧ 2 * (N * p2 up / D) + 1 < p2 3842 := by
  have ln1 : 1 ≤ ln := by
    rcases Nat.eq_zero_or_pos ln with c | c
    · rw [c] at hN; have := hN.1; rw [show p2 0 = 1 from rfl] at this; omega
    · exact c
  have ld1 : 1 ≤ ld := by
    rcases Nat.eq_zero_or_pos ld with c | c
    · rw [c] at hD; have := hD.1; rw [show p2 0 = 1 from rfl] at this; omega
    · exact c
  have n2 := hN.2 ln1
  have d2 := hD.2 ld1
  have b1 : ld ≤ ln + 1150 := by
    have h1 : N * p2 1150 < p2 ln * p2 1150 := Int.mul_lt_mul_of_pos_right hN.1 (p2_pos _)
    rw [← p2_add] at h1
    have := p2_lt_of (a := ld - 1) (b := ln + 1150) (by omega)
    omega
  have P := p2_pos up
  have q1 : D * p2 68 ≤ N * p2 up := by
    have h1 : D * p2 68 ≤ p2 ld * p2 68 := Int.mul_le_mul_of_nonneg_right (Int.le_of_lt hD.1) (Int.le_of_lt (p2_pos _))
    have h2 : p2 (ln - 1) * p2 up ≤ N * p2 up := Int.mul_le_mul_of_nonneg_right n2 (Int.le_of_lt P)
    rw [← p2_add] at h1 h2
    have h3 := p2_mono (m := ld + 68) (n := ln - 1 + up) (by omega)
    omega
  have q2 : p2 68 ≤ N * p2 up / D := Int.le_ediv_of_mul_le D0 (by rw [Int.mul_comm]; exact q1)
  have q3 := p2_pos 68
  refine ⟨by omega, q2, by omega, ?_⟩
  have e : p2 3842 = 2 * (2 * p2 3840) := rfl
  have q4 : N * p2 up / D < p2 3840 := by
    refine (Int.ediv_lt_iff_lt_mul D0).2 ?_
    rcases Nat.eq_zero_or_pos up with c | c
    · rw [c, show p2 0 = 1 from rfl, Int.mul_one]
      have h1 := p2_mono hn
      have h2 : p2 3840 * 1 ≤ p2 3840 * D := Int.mul_le_mul_of_nonneg_left (by omega) (Int.le_of_lt (p2_pos _))
      have := hN.1
      omega
    · have h1 : N * p2 up < p2 ln * p2 up := Int.mul_lt_mul_of_pos_right hN.1 P
      rw [← p2_add] at h1
      have h2 : p2 71 * p2 (ld - 1) ≤ p2 3840 * D := by
        have a1 : p2 71 * p2 (ld - 1) ≤ p2 3840 * p2 (ld - 1) := Int.mul_le_mul_of_nonneg_right (p2_mono (by omega)) (Int.le_of_lt (p2_pos _))
        have a2 : p2 3840 * p2 (ld - 1) ≤ p2 3840 * D := Int.mul_le_mul_of_nonneg_left d2 (Int.le_of_lt (p2_pos _))
        omega
      rw [← p2_add] at h2
      have h3 := p2_mono (m := ln + up) (n := 71 + (ld - 1)) (by omega)
      omega
  have := p2_pos 3840
  omega

/-- 346 places are no more than 1150 bits -/
theorem tn_346 : (10 : Int) ^ 346 ≤ p2 1150 := by rw [p2_pow]; decide +kernel
theorem d8_ratio {N : Int} {k j : Nat} (hN : tn (k - 1) ≤ N) (hj : j ≤ k - 1 + 346) : (10 : Int) ^ j ≤ N * p2 1150 := by
  have h1 : (10 : Int) ^ j ≤ tn (k - 1 + 346) := tn_mono hj
  rw [tn_add] at h1
  have h2 : tn (k - 1) * tn 346 ≤ tn (k - 1) * p2 1150 := Int.mul_le_mul_of_nonneg_left tn_346 (Int.le_of_lt (tn_pos _))
  have h3 : tn (k - 1) * p2 1150 ≤ N * p2 1150 := Int.mul_le_mul_of_nonneg_right hN (Int.le_of_lt (p2_pos _))
  omega
theorem f_68 : (2 : Int) * 4503599627370496 ≤ p2 68 := by decide
/-- digits behind the 1100th: something more -/
theorem d8_cut {es : List Int} {p r : Int} (hd : Dgt es) (h0 : 1100 < es.length) (hl0 : Nt.lb es 0 ≠ 48) (hz : Nt.lb es (es.length - 1) ≠ 48) (hp : p ≤ 310)
    (h : DV 4503599627370496 (-1074) 9218868437227405312 (dg (es.take 1100 ++ [49])) (p - 1101) r) : DV 4503599627370496 (-1074) 9218868437227405312 (dg es) (p - es.length) r := by
  obtain ⟨c, hc⟩ : ∃ c, es.length = 1100 + c := ⟨es.length - 1100, by omega⟩
  have e1 : dg es = dg (es.take 1100) * tn c + dg (es.drop 1100) := by
    have := dg_append (es.take 1100) (es.drop 1100)
    rw [List.take_append_drop, List.length_drop, hc, show 1100 + c - 1100 = c by omega] at this
    exact this
  have e2 : dg (es.take 1100 ++ [49]) = dg (es.take 1100) * 10 + 1 := by rw [dg_snoc]; omega
  have l0 : Nt.lb (es.take 1100) 0 = Nt.lb es 0 := by
    cases es with
    | nil => exfalso; simp only [List.length_nil] at h0; omega
    | cons a x => simp [Nt.lb]
  have t1 := dg_lead' (hd.take 1100) (by rw [List.length_take]; omega) (by rw [l0]; exact hl0)
  rw [List.length_take, show min 1100 es.length = 1100 by omega] at t1
  have t2 : tn 799 ≤ dg (es.take 1100) := Int.le_trans (tn_mono (by omega)) t1
  have r1 := dg_range (hd.drop 1100)
  rw [List.length_drop, hc, show 1100 + c - 1100 = c by omega] at r1
  have r0 : 0 < dg (es.drop 1100) := by
    have lc : (es.drop 1100).length = c := by rw [List.length_drop]; omega
    have e3 := dg_take (ds := es.drop 1100) (k := c - 1) (by omega)
    rw [show c - 1 + 1 = c by omega, List.take_of_length_le (by omega)] at e3
    have e4 : Nt.lb (es.drop 1100) (c - 1) = Nt.lb es (es.length - 1) := by
      rw [hc, show 1100 + c - 1 = 1100 + (c - 1) by omega]
      simp [Nt.lb, List.getElem?_drop]
    rw [e4] at e3
    have hm : Nt.lb es (es.length - 1) ∈ es := lb_in (by omega)
    have := hd _ hm
    have r2 := (dg_range ((hd.drop 1100).take (c - 1))).1
    omega
  have T1 : tn 1 = 10 := rfl
  refine dv_cut (A := dg (es.take 1100)) (N := dg (es.take 1100 ++ [49])) (j := 1) (j' := c) wide_d t2 ?_ ?_ ?_ ?_ ?_ ?_ h
  · rw [e2, T1]; omega
  · rw [e2, T1, Int.add_mul]; omega
  · rw [e1]; omega
  · rw [e1, Int.add_mul]; omega
  · omega
  · rw [hc]; omega

end Go.Proofs.YtinfkoiifemjmaaGreatDoor
