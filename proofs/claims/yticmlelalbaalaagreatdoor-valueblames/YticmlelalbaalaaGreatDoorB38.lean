import Derived.Test.YticmlelalbaalaaGreatDoorB03
import Derived.Deep.RegionWith
import Derived.Deep.QuietTactic
import Derived.BigQuiet
namespace Go.Proofs.YticmlelalbaalaaGreatDoor
open Go.RowKit
theorem p2_8 (n : Nat) : p2 (8 * n) = Nb.pw n := by
  induction n with
  | zero => rfl
  | succ n ih => rw [Nat.mul_succ, p2_add, ih, Nb.pw_succ, show p2 8 = 256 from by decide, Int.mul_comm]
theorem isLen_byte {xs : List Int} {k : Nat} (hx : Nb.Canon xs) (hn : 0 < xs.length) (h : IsLen (Nt.lb xs (xs.length - 1)) k) : IsLen (Nb.val xs) (8 * (xs.length - 1) + k) := by
  obtain ⟨n, hl⟩ : ∃ n, xs.length = n + 1 := ⟨xs.length - 1, by omega⟩
  have hne : xs ≠ [] := by intro e; subst e; simp at hn
  have h0 := hx.2 hne
  have hb := hx.1 n
  have hv := Nb.vt_bounds hx.1 n
  rw [hl, Nat.add_sub_cancel] at h h0 ⊢
  have hval : Nb.val xs = Nb.vt xs n + Nt.lb xs n * Nb.pw n := by unfold Nb.val; rw [hl, Nb.vt_succ]
  have hp := Nb.pw_pos n
  have hk := len_pos h (by omega)
  rw [hval]
  refine ⟨?_, fun _ => ?_⟩
  · rw [p2_add, p2_8]
    have : Nb.pw n * (Nt.lb xs n + 1) ≤ Nb.pw n * p2 k := Int.mul_le_mul_of_nonneg_left (by have := h.1; omega) (by omega)
    rw [Int.mul_add, Int.mul_comm] at this
    omega
  · rw [show 8 * n + k - 1 = 8 * n + (k - 1) by omega, p2_add, p2_8]
    have : Nb.pw n * p2 (k - 1) ≤ Nb.pw n * Nt.lb xs n := Int.mul_le_mul_of_nonneg_left (h.2 hk) (by omega)
    rw [Int.mul_comm _ (Nt.lb xs n)] at this
    omega
theorem half_step {T : Int} {j : Nat} (hp : 0 < T / p2 j) : T / p2 j / 2 = T / p2 (j + 1) ∧ p2 (j + 1 - 1) ≤ T := by
  have h2 := p2_pos j
  refine ⟨?_, ?_⟩
  · rw [Int.ediv_ediv_of_nonneg (by omega)]
    congr 1
    simp only [p2]; omega
  · rw [Nat.add_sub_cancel]
    by_cases h : p2 j ≤ T
    · exact h
    · by_cases h0 : 0 ≤ T
      · rw [Int.ediv_eq_zero_of_lt h0 (by omega)] at hp; omega
      · have := Int.ediv_neg_of_neg_of_pos (show T < 0 by omega) h2; omega
set_option maxHeartbeats 1000000 in
theorem rlen_any {w : World} {va : Value} {A : Int} {ka k : Nat} (ha : Arg w va A ka) (hka : ka ≤ 1099511627776) (hk : IsLen A k) :
    Calls Tryz.prog 201 #[va] w fun e w' => e = .returned (.int .i64 k) ∧ Below w.heap.size w w' := by
  have HK := hide hk
  clear hk
  go_enter Tryz.func201, Tryz.ntmps201
  go_wp2_with fail
  refine (bytes_any ha hka).mono ?_
  rintro e w1 ⟨v1, rfl, ⟨ys, ⟨ao, cap, rfl, hl, hm, hyc⟩, hy, rfl, hyk⟩, hb1⟩
  clear ha
  by_cases h0 : ys.length = 0
  · have h0' : ((ys.length : Int) == 0) = true := by simp [h0]
    have hye : ys = [] := List.eq_nil_of_length_eq_zero h0
    clear h0
    go_wp2
    go_ret
    have hk0 : k = 0 := isLen_unique HK.out (by rw [hye]; exact ⟨by decide, fun h => by omega⟩)
    rw [hk0]
    exact ⟨rfl, hb1⟩
  · have h0' : ((ys.length : Int) == 0) = false := by simp; intro e; subst e; simp at h0
    obtain ⟨b, off, rfl, hb, hcell⟩ := hyc (by omega)
    have hg := hcell (ys.length - 1) (by omega)
    have hp : (1 : Int) ≤ (ys.length : Int) := by omega
    obtain ⟨bx0, bx1⟩ := hy.1 (ys.length - 1)
    obtain ⟨T, hT⟩ : ∃ T, Nt.lb ys (ys.length - 1) = T := ⟨_, rfl⟩
    rw [hT] at hg bx0 bx1
    have HT := hide hT
    clear hcell hyc hT
    go_wp2
    go_loop [4, 5] (fun sn st => ∃ (j : Nat) (t : Int), sn = .int .i64 (8 * ((ys.length : Int) - 1) + j) ∧ st = .int .i64 t ∧ 0 ≤ t ∧ t < 256 ∧ t = T / p2 j ∧ (0 < j → p2 (j - 1) ≤ T) ∧ j ≤ 8) (fun _ st => (intOf st).toNat)
    case atStart => exact ⟨0, T, by simp, rfl, bx0, bx1, by simp [p2], fun h => by omega, by omega⟩
    case round =>
      obtain ⟨j, t, rfl, rfl, ht0, ht1, ht, hj, hj8⟩ := hrel
      have Ht := hide ht
      have Hj := hide hj
      clear ht hj
      by_cases hp0 : 0 < t
      · have hs := half_step (T := T) (j := j) (by rw [← Ht.out]; exact hp0)
        have hj9 : j + 1 ≤ 8 := by
          by_cases h : j + 1 ≤ 8
          · exact h
          · have h1 := hs.2
            have h2 := p2_mono (m := 8) (n := j + 1 - 1) (by omega)
            rw [show p2 8 = 256 by decide] at h2
            omega
        have Hs := hide hs
        clear hs
        go_wp2
        go_round
        case rel => exact ⟨j + 1, t / 2, by go_num, rfl, by omega, by omega, by rw [Ht.out]; exact Hs.out.1, fun _ => Hs.out.2, hj9⟩
        case measure => simp [intOf]; omega
      · have ht00 : t = 0 := by omega
        have hlt : T < p2 j := by
          have h := Ht.out
          rw [ht00] at h
          have h2 := p2_pos j
          have h3 := Int.mul_ediv_add_emod T (p2 j)
          have h4 := Int.emod_lt_of_pos T h2
          rw [← h, Int.mul_zero] at h3
          omega
        have hfin := isLen_byte hy (by omega) (k := j) (by rw [HT.out]; exact ⟨hlt, Hj.out⟩)
        have hke : k = 8 * (ys.length - 1) + j := isLen_unique HK.out hfin
        have Hke := hide hke
        clear hfin hlt hke
        go_wp2
        go_ret
        refine ⟨ret_int ?_, hb1⟩
        have := Hke.out
        omega
set_option maxHeartbeats 1000000 in
theorem rcmp_any {w : World} {va vb : Value} {n m : Int} {ka kb : Nat} (ha : Arg w va n ka) (hb : Arg w vb m kb) (hka : ka ≤ 1099511627776) (hkb : kb ≤ 1099511627776) :
    Calls Tryz.prog 89 #[va, vb] w fun e w' => e = .returned (.int .i64 (sgn n m)) ∧ Below w.heap.size w w' := by
  go_enter Tryz.func89, Tryz.ntmps89
  go_wp2_with fail
  refine (bytes_any ha hka).mono ?_
  rintro e w1 ⟨v1, rfl, ⟨xs, ⟨ao, ca, rfl, hxl, hxm, hxc⟩, hx, rfl, hxk⟩, hb1⟩
  go_wp2_with fail
  refine (bytes_any (hb.below hb1) hkb).mono ?_
  rintro e w2 ⟨v2, rfl, ⟨ys, ⟨bo, cb, rfl, hyl, hym, hyc⟩, hy, rfl, hyk⟩, hb2⟩
  replace hxc := hxc.below hb2
  have hbb := below_trans hb1 hb2
  clear ha hb hb1 hb2
  by_cases hl : xs.length = ys.length
  · have hl1 : ((xs.length : Int) != (ys.length : Int)) = false := by simp [hl]
    have Hl := hide hl
    clear hl
    go_wp2
    go_loopw [7] (fun si wr => ∃ j : Nat, j ≤ xs.length ∧ si = .int .i64 ((j : Int) - 1) ∧ (∀ i, j ≤ i → i < xs.length → Nt.lb xs i = Nt.lb ys i) ∧ Below w2.heap.size w2 wr) (fun si _ => (intOf si + 1).toNat)
    case atStart => exact ⟨xs.length, Nat.le_refl _, rfl, fun i h1 h2 => by omega, Below.refl _ _⟩
    case round =>
      obtain ⟨j, hj, rfl, hsame, hbr⟩ := hrel
      have HS := hide hsame
      clear hsame
      by_cases hj0 : j = 0
      · subst hj0
        go_wp2
        go_ret
        refine ⟨?_, hbb.trans (hbr.mono hbb.size)⟩
        rw [sgn_eq]
        · rfl
        · unfold Nb.val
          rw [← Hl.out]
          exact Nb.vt_congr fun i hi => HS.out i (by omega) hi
      · obtain ⟨p, rfl⟩ : ∃ p, j = p + 1 := ⟨j - 1, by omega⟩
        have hpx : p < xs.length := by omega
        have hpy : p < ys.length := by have := Hl.out; omega
        obtain ⟨b1, o1, rfl, _, hc1⟩ := (hxc.below hbr) (by omega)
        obtain ⟨b2, o2, rfl, _, hc2⟩ := (hyc.below hbr) (by omega)
        have g1 := hc1 p hpx
        have g2 := hc2 p hpy
        clear hc1 hc2 hxc hyc
        rcases Int.lt_trichotomy (Nt.lb xs p) (Nt.lb ys p) with h | h | h
        · have hq' : (Nt.lb xs p != Nt.lb ys p) = true := by simp; omega
          have hs := hide (sgn_lt (by unfold Nb.val; rw [← Hl.out]; exact Nb.vt_lt_at hx.1 hy.1 (p := p) hpx (fun i a b => HS.out i (by omega) b) h : Nb.val xs < Nb.val ys))
          go_wp2
          go_region
          all_goals go_wp2
          all_goals go_region
          all_goals go_wp2
          all_goals go_ret
          all_goals
            refine ⟨?_, hbb.trans (Below.mono (by repeat (first | exact hbr | apply Below.drew)) hbb.size)⟩
            rw [hs.out]
            rfl
        · have hq' : (Nt.lb xs p != Nt.lb ys p) = false := by simp [h]
          have Hq := hide h
          clear h
          go_wp2
          go_region
          all_goals go_wp2
          all_goals go_roundw
          all_goals first
            | exact ⟨p, by omega, rfl, fun i h1 h2 => by
                by_cases e : i = p
                · subst e; exact Hq.out
                · exact HS.out i (by omega) h2, by repeat (first | exact hbr | apply Below.drew)⟩
            | simp [intOf]
        · have hq' : (Nt.lb xs p != Nt.lb ys p) = true := by simp; omega
          have h' : ¬ Nt.lb xs p < Nt.lb ys p := by omega
          have hs := hide (sgn_gt (by unfold Nb.val; rw [← Hl.out]; exact Nb.vt_lt_at hy.1 hx.1 (p := p) hpx (fun i a b => (HS.out i (by omega) b).symm) h : Nb.val ys < Nb.val xs))
          go_wp2
          go_region
          all_goals go_wp2
          all_goals go_region
          all_goals go_wp2
          all_goals go_ret
          all_goals
            refine ⟨?_, hbb.trans (Below.mono (by repeat (first | exact hbr | apply Below.drew)) hbb.size)⟩
            rw [hs.out]
            rfl
  · have hl1 : ((xs.length : Int) != (ys.length : Int)) = true := by simp; omega
    by_cases hlt : xs.length < ys.length
    · have hs := hide (sgn_lt (Nb.canon_lt hx.1 hy hlt))
      go_wp2
      go_ret
      refine ⟨?_, hbb⟩
      rw [hs.out]
      rfl
    · have hs := hide (sgn_gt (Nb.canon_lt hy.1 hx (by omega)))
      have hlt' : ¬ (xs.length : Int) < (ys.length : Int) := by omega
      go_wp2
      go_ret
      refine ⟨?_, hbb⟩
      rw [hs.out]
      rfl
theorem b_vt_set_add {zs : List Int} {i : Nat} (hi : i < zs.length) (h0 : Nt.lb zs i = 0) (q : Int) (n : Nat) (hn : i < n) : Nb.vt (zs.set i q) n = Nb.vt zs n + q * Nb.pw i := by
  induction n with
  | zero => omega
  | succ n ih =>
    rw [Nb.vt_succ, Nb.vt_succ]
    by_cases e : i = n
    · subst e; rw [Nb.vt_set (Nat.le_refl _), Nt.lb_set_eq hi, h0]; simp
    · rw [Nt.lb_set_ne e, ih (by omega)]; omega
theorem b_val_set_add {zs : List Int} {i : Nat} (hi : i < zs.length) (h0 : Nt.lb zs i = 0) (q : Int) : Nb.val (zs.set i q) = Nb.val zs + q * Nb.pw i := by
  unfold Nb.val
  rw [List.length_set]
  exact b_vt_set_add hi h0 q _ hi
theorem bsmall_step {xs zs : List Int} {m : Nat} {r d V : Int} (hm : m < zs.length) (h0 : Nt.lb zs m = 0) (h : V = Nb.vt xs (m + 1) + Nb.val zs * d + r * Nb.pw (m + 1)) :
    V = Nb.vt xs m + Nb.val (zs.set m ((r * 256 + Nt.lb xs m) / d)) * d + ((r * 256 + Nt.lb xs m) % d) * Nb.pw m := by
  rw [h, b_val_set_add hm h0, Nb.vt_succ, Nb.pw_succ]
  have e : (r * 256 + Nt.lb xs m) % d + d * ((r * 256 + Nt.lb xs m) / d) = r * 256 + Nt.lb xs m := Int.emod_add_mul_ediv _ _
  generalize (r * 256 + Nt.lb xs m) % d = s at *
  generalize (r * 256 + Nt.lb xs m) / d = q at *
  have e2 : (s + d * q) * Nb.pw m = (r * 256 + Nt.lb xs m) * Nb.pw m := by rw [e]
  rw [Int.add_mul, Int.add_mul] at e2
  rw [Int.add_mul, ← Int.mul_assoc r]
  have e3 : q * Nb.pw m * d = d * q * Nb.pw m := by rw [Int.mul_comm, ← Int.mul_assoc]
  rw [e3]
  omega
set_option maxHeartbeats 2000000 in
theorem rsmall_yes {w : World} {va : Value} {n d : Int} {ka : Nat} (ha : Arg w va n ka) (hka : ka ≤ 1099511627776) (hd0 : 0 < d) (hd1 : d < 4294967296) :
    Calls Tryz.prog 153 #[va, .int .u32 d] w fun e w' => ∃ v, e = .returned (.tuple #[v, .int .u32 (n % d), .bool true]) ∧ Num w.heap.size w' v (n / d) ka ∧ Below w.heap.size w w' := by
  have hdz : (d == 0) = false := by simp; omega
  go_enter Tryz.func153, Tryz.ntmps153
  go_wp2_with fail
  refine (bytes_any ha hka).mono ?_
  rintro e w1 ⟨v1, rfl, ⟨xs, ⟨ao, ca, rfl, hxl, hxm, hxc⟩, hx, rfl, hxk⟩, hb1⟩
  clear ha
  go_wp2_with (at_make; refine wpList_make_row _ rfl _ _ 61 rfl 3 .i64 8 Tryz.underlying61 Tryz.infoI64 _ _ _ _ xs.length xs.length rfl rfl (by omega) (by omega) (Nat.le_refl _) (by omega) (by unfold maxLen; omega) ?_)
  intro w2 hr hbel hsz
  go_wp2
  go_loopw [9, 10] (fun sl si wr => ∃ (m : Nat) (r : Int) (zs : List Int), m ≤ xs.length ∧ si = .int .i64 ((m : Int) - 1) ∧ sl = .int .i64 r ∧ 0 ≤ r ∧ r < d ∧ zs.length = xs.length ∧ Nb.Ok zs ∧ (∀ j, j < m → Nt.lb zs j = 0) ∧ Row .i64 3 wr w1.heap.size zs ∧ Below w1.heap.size w1 wr ∧
      Nb.val xs = Nb.vt xs m + Nb.val zs * d + r * Nb.pw m) (fun _ si _ => (intOf si + 1).toNat)
  case atStart => exact ⟨xs.length, 0, List.replicate xs.length 0, Nat.le_refl _, rfl, rfl, by omega, by omega, by simp, Nb.ok_replicate _, fun j _ => Nt.lb_replicate _ _, hr, hbel, by
    have e : Nb.val (List.replicate xs.length 0) = 0 := by
      unfold Nb.val; rw [Nb.vt_cut (k := 0) (by omega) (fun i _ _ => Nt.lb_replicate _ _)]; rfl
    rw [e]; simp [Nb.val]⟩
  case round =>
    obtain ⟨m, r, zs, hml, rfl, rfl, hr0, hr1, hzl, hzo, hz0, hrow, hbr, heq⟩ := hrel
    have Heq := hide heq
    have Hzl := hide hzl
    have Hz := hide hz0
    clear heq hzl hz0 hr hbel
    by_cases hm0 : m = 0
    · subst hm0
      have hz2 : zs.length = xs.length := Hzl.out
      have hfin : Nb.val xs = Nb.val zs * d + r := by
        have := Heq.out
        simp only [Nb.vt, Nb.pw] at this
        omega
      have hq : Nb.val xs / d = Nb.val zs ∧ Nb.val xs % d = r := by
        rw [Int.ediv_emod_unique hd0]
        refine ⟨?_, hr0, hr1⟩
        rw [hfin, Int.mul_comm]; omega
      have hrd : Reads .i64 wr (.slice (some ⟨w1.heap.size, 0, none⟩) xs.length xs.length) zs := ⟨_, xs.length, by rw [hz2], by omega, by unfold maxLen; omega, fun _ => ⟨w1.heap.size, 0, rfl, hrow.lt, fun i hi => by rw [Nat.zero_add]; exact hrow.cell hi⟩⟩
      have hla := limbs_any (ka := xs.length) ⟨zs, hrd, hzo, rfl, by omega⟩ (by omega)
      have Hla := hide hla
      have Hq := hide hq
      clear hz2 hfin hq hrd hla
      go_wp2_with fail
      refine Calls.mono Hla.out ?_
      rintro e w5 ⟨v, rfl, hv, hb5⟩
      go_wp2
      go_ret3
      refine ⟨v, ?_, ?_, below_trans hb1 (hbr.trans (hb5.mono hbr.size))⟩
      · rw [Hq.out.2]
        rfl
      · rw [Hq.out.1]
        exact (num_since hv (by have := hb1.size; have := hbr.size; omega)).mono (by omega)
    · obtain ⟨p, rfl⟩ : ∃ p, m = p + 1 := ⟨m - 1, by omega⟩
      obtain ⟨b1, o1, rfl, hbb, hc1⟩ := (hxc.below hbr) (by omega)
      have hpl : p < xs.length := by omega
      have g1 := hc1 p hpl
      have g2 := hrow.cell (i := p) (by have := Hzl.out; omega)
      have hfz := hrow.frozen p
      obtain ⟨bx0, bx1⟩ := hx.1 p
      have q0 : 0 ≤ (r * 256 + Nt.lb xs p) / d := Int.ediv_nonneg (by omega) (by omega)
      have q1 : (r * 256 + Nt.lb xs p) / d < 256 := Int.ediv_lt_of_lt_mul (by omega) (by omega)
      have r0 : 0 ≤ (r * 256 + Nt.lb xs p) % d := Int.emod_nonneg _ (by omega)
      have r1 : (r * 256 + Nt.lb xs p) % d < d := Int.emod_lt_of_pos _ (by omega)
      have Hst := hide (bsmall_step (xs := xs) (zs := zs) (m := p) (r := r) (d := d) (V := Nb.val xs) (by have := Hzl.out; omega) (Hz.out _ (by omega)) Heq.out)
      clear hc1 hxc
      go_wp2
      go_roundw
      case rel => exact ⟨p, (r * 256 + Nt.lb xs p) % d, zs.set p ((r * 256 + Nt.lb xs p) / d), by omega, rfl, rfl, r0, r1, by have := Hzl.out; simp [this], Nb.ok_set hzo ⟨q0, q1⟩, fun j hj => by
        rw [Nt.lb_set_ne (by omega)]; exact Hz.out j (by omega), hrow.set _ _, hbr.setCell (p := ⟨w1.heap.size, p, none⟩) (Nat.le_refl _) _, Hst.out⟩
      case measure => simp [intOf]
theorem heap_drewN (w : World) (n : Nat) : (w.drewN n).heap = w.heap := by
  induction n with
  | zero => rfl
  | succ n ih => exact ih
theorem below_drewN' {B : Nat} {a w : World} {n : Nat} (h : Below B a w) : Below B a (w.drewN n) := by
  induction n with
  | zero => exact h
  | succ n ih => exact ih.drew
end Go.Proofs.YticmlelalbaalaaGreatDoor
