/- RefB, RefC, RefD -/
import Derived.Test.YtgaldbfgmbaebaaDoorRefA
import Derived.Deep.RegionWith
import Derived.Deep.QuietTactic
import Derived.BigQuiet
namespace Go.Proofs.YtgaldbfgmbaebaaDoor
open Go.RowKit

theorem p2_8 (n : Nat) : p2 (8 * n) = Nb.pw n := by
  induction n with
  | zero => rfl
  | succ n ih => rw [Nat.mul_succ, p2_add, ih, Nb.pw_succ, show p2 8 = 256 from by decide, Int.mul_comm]

/-- the length of a number by its highest byte -/
theorem isLen_byte {xs : List Int} {k : Nat} (hx : Nb.Canon xs) (hn : 0 < xs.length) (h : IsLen (Nt.lb xs (xs.length - 1)) k) : IsLen (Nb.val xs) (8 * (xs.length - 1) + k) := by
  obtain ⟨n, hl⟩ : ∃ n, xs.length = n + 1 := ⟨xs.length - 1, by omega⟩
  have hne : xs ≠ [] := by intro e; subst e; simp at hn
  have h0 := hx.2 hne
  have hb := hx.1 n
  have hv := Nb.vt_bounds hx.1 n
  rw [hl, Nat.add_sub_cancel] at h h0 ⊢
  have hval : Nb.val xs = Nb.vt xs n + Nt.lb xs n * Nb.pw n := by unfold Nb.val; rw [hl, Nb.vt_succ]
  have hp := Nb.pw_pos n
  have hk := len_pos h (by omega)
  rw [hval]
  refine ⟨?_, fun _ => ?_⟩
  · rw [p2_add, p2_8]
    have : Nb.pw n * (Nt.lb xs n + 1) ≤ Nb.pw n * p2 k := Int.mul_le_mul_of_nonneg_left (by have := h.1; omega) (by omega)
    rw [Int.mul_add, Int.mul_comm] at this
    omega
  · rw [show 8 * n + k - 1 = 8 * n + (k - 1) by omega, p2_add, p2_8]
    have : Nb.pw n * p2 (k - 1) ≤ Nb.pw n * Nt.lb xs n := Int.mul_le_mul_of_nonneg_left (h.2 hk) (by omega)
    rw [Int.mul_comm _ (Nt.lb xs n)] at this
    omega

theorem half_step {T : Int} {j : Nat} (hp : 0 < T / p2 j) : T / p2 j / 2 = T / p2 (j + 1) ∧ p2 (j + 1 - 1) ≤ T := by
  have h2 := p2_pos j
  refine ⟨?_, ?_⟩
  · rw [Int.ediv_ediv_of_nonneg (by omega)]
    congr 1
    simp only [p2]; omega
  · rw [Nat.add_sub_cancel]
    by_cases h : p2 j ≤ T
    · exact h
    · by_cases h0 : 0 ≤ T
      · rw [Int.ediv_eq_zero_of_lt h0 (by omega)] at hp; omega
      · have := Int.ediv_neg_of_neg_of_pos (show T < 0 by omega) h2; omega

end Go.Proofs.YtgaldbfgmbaebaaDoor

namespace Go.Proofs.YtgaldbfgmbaebaaDoor
open Go.RowKit

/-- one round of a sum, bytes -/
theorem badd_step {xs ys zs : List Int} {c : Int} (h : Nb.val zs + c * Nb.pw zs.length = Nb.vt xs zs.length + Nb.vt ys zs.length) :
    Nb.val (zs ++ [(Nt.lb xs zs.length + Nt.lb ys zs.length + c) % 256]) + (Nt.lb xs zs.length + Nt.lb ys zs.length + c) / 256 * Nb.pw (zs.length + 1) = Nb.vt xs (zs.length + 1) + Nb.vt ys (zs.length + 1) := by
  rw [Nb.val_snoc, Nb.pw_succ, byte_step, Nb.vt_succ, Nb.vt_succ, Int.add_mul, Int.add_mul]
  omega

set_option maxHeartbeats 4000000 in
theorem radd_any {w : World} {va vb : Value} {n m : Int} {ka kb : Nat} (ha : Arg w va n ka) (hb : Arg w vb m kb) (hka : ka ≤ 1099511627776) (hkb : kb ≤ 1099511627776) :
    Calls Tryd.prog 89 #[va, vb] w fun e w' => ∃ v, e = .returned v ∧ Num w.heap.size w' v (n + m) (ka + kb + 1) ∧ Below w.heap.size w w' := by
  go_enter Tryd.func89, Tryd.ntmps89
  go_wp2_with fail
  refine (bytes_any ha hka).mono ?_
  rintro e w1 ⟨v1, rfl, ⟨xs, ⟨ao, ca, rfl, hxl, hxm, hxc⟩, hx, rfl, hxk⟩, hb1⟩
  go_wp2_with fail
  refine (bytes_any (hb.below hb1) hkb).mono ?_
  rintro e w2 ⟨v2, rfl, ⟨ys, ⟨bo, cb, rfl, hyl, hym, hyc⟩, hy, rfl, hyk⟩, hb2⟩
  replace hxc := hxc.below hb2
  have hbb := below_trans hb1 hb2
  clear ha hb hb1 hb2
  have hxmx : xs.length ≤ maxLen := by omega
  have hymx : ys.length ≤ maxLen := by omega
  go_wp2
  go_loopw [7, 8, 9] (fun out sc si wr => ∃ (q : Int) (zs : List Int), si = .int .i64 zs.length ∧ sc = .int .i64 q ∧ 0 ≤ q ∧ q ≤ 1 ∧ zs.length ≤ max xs.length ys.length + 1 ∧ (max xs.length ys.length < zs.length → q = 0) ∧ Nb.Ok zs ∧ Nb.val zs + q * Nb.pw zs.length = Nb.vt xs zs.length + Nb.vt ys zs.length ∧
      wr.ownsRow w2.heap.size 3 1 out zs.length (zs.map (Value.int .i64)) ∧ Below w2.heap.size w2 wr) (fun _ _ si _ => max xs.length ys.length + 1 - (intOf si).toNat)
  case atStart => exact ⟨0, [], rfl, rfl, by omega, by omega, by simp, fun h => by simp at h, Nb.ok_nil, by simp [Nb.val, Nb.vt], by simpa using World.ownsRow_nil w2 w2.heap.size 3 1, Below.refl _ _⟩
  case round =>
    obtain ⟨q, zs, rfl, rfl, hq0, hq1, hzl, hqz, hzo, heq, hown, hbr⟩ := hrel
    have Heq := hide heq
    have Hqz := hide hqz
    clear heq hqz
    have hcx := hxc.below hbr
    have hcy := hyc.below hbr
    obtain ⟨k, hk⟩ : ∃ k, zs.length = k := ⟨_, rfl⟩
    have bx := hx.1 k
    have by' := hy.1 k
    obtain ⟨bx0, bx1⟩ := bx
    obtain ⟨by0, by1⟩ := by'
    have hsz := hbr.size
    have hst := badd_step Heq.out
    rw [hk] at hown hzl hst ⊢
    have Hst := hide hst
    have Hk := hide hk
    clear hst hk
    have hkb' : k ≤ 8796093022209 := by omega
    by_cases h1 : k < xs.length
    · have hc1 : (k : Int) < (xs.length : Int) := by omega
      go_wp2_with fail
      refine (at_any ao ca xs k _ hxmx hcx).mono ?_
      rintro e w3 ⟨rfl, rfl⟩
      go_wp2_with fail
      refine (at_any bo cb ys k _ hymx hcy).mono ?_
      rintro e w3 ⟨rfl, rfl⟩
      go_wp2_with (at_builtin; refine wpList_append_cells _ rfl _ _ 120 rfl w2.heap.size 3 .i64 8 Tryd.underlying120 Tryd.infoI64 _ k zs rfl (hown.alloc _) _ 1 [(Nt.lb xs k + Nt.lb ys k + q) % 256] rfl (cells_one _ _ _ _) (by unfold maxLen; simp; omega) (by simp; omega) (by simp; omega) ?_)
      intro v' w4 hown' hgrow
      have hb4 : Below w2.heap.size w2 w4 := below_own (hbr.alloc hsz _) (by simp; omega) (hown.alloc _) hgrow
      have Hown' := hide hown'
      clear hown' hgrow hown hcx hcy
      go_wp2
      go_roundw
      case rel => exact ⟨(Nt.lb xs k + Nt.lb ys k + q) / 256, zs ++ [(Nt.lb xs k + Nt.lb ys k + q) % 256], by rw [List.length_append, List.length_singleton, Hk.out]; go_num, rfl, by omega, by omega, by rw [List.length_append, List.length_singleton, Hk.out]; omega, fun h => by
        rw [List.length_append, List.length_singleton, Hk.out] at h
        have e1 : Nt.lb xs k = 0 := Nt.lb_out (by omega)
        have e2 : Nt.lb ys k = 0 := Nt.lb_out (by omega)
        rw [e1, e2]; omega, Nb.ok_snoc hzo (by omega), by rw [List.length_append, List.length_singleton, Hk.out]; exact Hst.out, by simpa [Hk.out] using Hown'.out, hb4⟩
      case measure => simp [intOf]; omega
    by_cases h2 : k < ys.length
    · have hc1 : ¬ (k : Int) < (xs.length : Int) := by omega
      have hc2 : (k : Int) < (ys.length : Int) := by omega
      go_wp2_with fail
      refine (at_any ao ca xs k _ hxmx hcx).mono ?_
      rintro e w3 ⟨rfl, rfl⟩
      go_wp2_with fail
      refine (at_any bo cb ys k _ hymx hcy).mono ?_
      rintro e w3 ⟨rfl, rfl⟩
      go_wp2_with (at_builtin; refine wpList_append_cells _ rfl _ _ 120 rfl w2.heap.size 3 .i64 8 Tryd.underlying120 Tryd.infoI64 _ k zs rfl (hown.alloc _) _ 1 [(Nt.lb xs k + Nt.lb ys k + q) % 256] rfl (cells_one _ _ _ _) (by unfold maxLen; simp; omega) (by simp; omega) (by simp; omega) ?_)
      intro v' w4 hown' hgrow
      have hb4 : Below w2.heap.size w2 w4 := below_own (hbr.alloc hsz _) (by simp; omega) (hown.alloc _) hgrow
      have Hown' := hide hown'
      clear hown' hgrow hown hcx hcy
      go_wp2
      go_roundw
      case rel => exact ⟨(Nt.lb xs k + Nt.lb ys k + q) / 256, zs ++ [(Nt.lb xs k + Nt.lb ys k + q) % 256], by rw [List.length_append, List.length_singleton, Hk.out]; go_num, rfl, by omega, by omega, by rw [List.length_append, List.length_singleton, Hk.out]; omega, fun h => by
        rw [List.length_append, List.length_singleton, Hk.out] at h
        have e1 : Nt.lb xs k = 0 := Nt.lb_out (by omega)
        have e2 : Nt.lb ys k = 0 := Nt.lb_out (by omega)
        rw [e1, e2]; omega, Nb.ok_snoc hzo (by omega), by rw [List.length_append, List.length_singleton, Hk.out]; exact Hst.out, by simpa [Hk.out] using Hown'.out, hb4⟩
      case measure => simp [intOf]; omega
    by_cases h3 : 0 < q
    · have hc1 : ¬ (k : Int) < (xs.length : Int) := by omega
      have hc2 : ¬ (k : Int) < (ys.length : Int) := by omega
      have hkm : k ≤ max xs.length ys.length := by
        by_cases h : max xs.length ys.length < k
        · have := Hqz.out (by rw [Hk.out]; exact h); omega
        · omega
      go_wp2_with fail
      refine (at_any ao ca xs k _ hxmx hcx).mono ?_
      rintro e w3 ⟨rfl, rfl⟩
      go_wp2_with fail
      refine (at_any bo cb ys k _ hymx hcy).mono ?_
      rintro e w3 ⟨rfl, rfl⟩
      go_wp2_with (at_builtin; refine wpList_append_cells _ rfl _ _ 120 rfl w2.heap.size 3 .i64 8 Tryd.underlying120 Tryd.infoI64 _ k zs rfl (hown.alloc _) _ 1 [(Nt.lb xs k + Nt.lb ys k + q) % 256] rfl (cells_one _ _ _ _) (by unfold maxLen; simp; omega) (by simp; omega) (by simp; omega) ?_)
      intro v' w4 hown' hgrow
      have hb4 : Below w2.heap.size w2 w4 := below_own (hbr.alloc hsz _) (by simp; omega) (hown.alloc _) hgrow
      have Hown' := hide hown'
      clear hown' hgrow hown hcx hcy
      go_wp2
      go_roundw
      case rel => exact ⟨(Nt.lb xs k + Nt.lb ys k + q) / 256, zs ++ [(Nt.lb xs k + Nt.lb ys k + q) % 256], by rw [List.length_append, List.length_singleton, Hk.out]; go_num, rfl, by omega, by omega, by rw [List.length_append, List.length_singleton, Hk.out]; omega, fun h => by
        rw [List.length_append, List.length_singleton, Hk.out] at h
        have e1 : Nt.lb xs k = 0 := Nt.lb_out (by omega)
        have e2 : Nt.lb ys k = 0 := Nt.lb_out (by omega)
        rw [e1, e2]; omega, Nb.ok_snoc hzo (by omega), by rw [List.length_append, List.length_singleton, Hk.out]; exact Hst.out, by simpa [Hk.out] using Hown'.out, hb4⟩
      case measure => simp [intOf]; omega
    · have hc1 : ¬ (k : Int) < (xs.length : Int) := by omega
      have hc2 : ¬ (k : Int) < (ys.length : Int) := by omega
      have hc3 : ¬ 0 < q := by omega
      have hq00 : q = 0 := by omega
      have hfin : Nb.val zs = Nb.val xs + Nb.val ys := by
        have h := Heq.out
        rw [Hk.out, hq00, Int.zero_mul, Int.add_zero, Nb.vt_out (xs := xs) (by omega), Nb.vt_out (xs := ys) (by omega)] at h
        exact h
      have hrd : Reads .i64 wr _ zs := reads_of_owns hown
      have hla := limbs_any (ka := k) ⟨zs, hrd, hzo, rfl, by rw [Hk.out]; exact Nat.le_refl _⟩ (by omega)
      rw [hfin] at hla
      have Hla := hide hla
      clear hfin hrd hla hq00 hcx hcy
      go_wp2_with fail
      refine Calls.mono Hla.out ?_
      rintro e w5 ⟨v, rfl, hv, hb5⟩
      go_wp2
      go_ret
      exact ⟨v, rfl, (num_since hv (by have := hbb.size; have := hbr.size; omega)).mono (by omega), below_trans hbb (hbr.trans (hb5.mono hbr.size))⟩

/-- one round of a difference, bytes -/
theorem bsub_step {xs ys zs : List Int} {c D c' : Int} (hD : D - c' * 256 = Nt.lb xs zs.length - Nt.lb ys zs.length - c) (h : Nb.val zs - c * Nb.pw zs.length = Nb.vt xs zs.length - Nb.vt ys zs.length) :
    Nb.val (zs ++ [D]) - c' * Nb.pw (zs.length + 1) = Nb.vt xs (zs.length + 1) - Nb.vt ys (zs.length + 1) := by
  rw [Nb.val_snoc, Nb.pw_succ, Nb.vt_succ, Nb.vt_succ]
  have e2 : (D - c' * 256) * Nb.pw zs.length = (Nt.lb xs zs.length - Nt.lb ys zs.length - c) * Nb.pw zs.length := by rw [hD]
  rw [Int.sub_mul, Int.sub_mul, Int.sub_mul, Int.mul_assoc] at e2
  omega

theorem b_vt_set_add {zs : List Int} {i : Nat} (hi : i < zs.length) (h0 : Nt.lb zs i = 0) (q : Int) (n : Nat) (hn : i < n) : Nb.vt (zs.set i q) n = Nb.vt zs n + q * Nb.pw i := by
  induction n with
  | zero => omega
  | succ n ih =>
    rw [Nb.vt_succ, Nb.vt_succ]
    by_cases e : i = n
    · subst e; rw [Nb.vt_set (Nat.le_refl _), Nt.lb_set_eq hi, h0]; simp
    · rw [Nt.lb_set_ne e, ih (by omega)]; omega
theorem b_val_set_add {zs : List Int} {i : Nat} (hi : i < zs.length) (h0 : Nt.lb zs i = 0) (q : Int) : Nb.val (zs.set i q) = Nb.val zs + q * Nb.pw i := by
  unfold Nb.val
  rw [List.length_set]
  exact b_vt_set_add hi h0 q _ hi

theorem bsmall_step {xs zs : List Int} {m : Nat} {r d V : Int} (hm : m < zs.length) (h0 : Nt.lb zs m = 0) (h : V = Nb.vt xs (m + 1) + Nb.val zs * d + r * Nb.pw (m + 1)) :
    V = Nb.vt xs m + Nb.val (zs.set m ((r * 256 + Nt.lb xs m) / d)) * d + ((r * 256 + Nt.lb xs m) % d) * Nb.pw m := by
  rw [h, b_val_set_add hm h0, Nb.vt_succ, Nb.pw_succ]
  have e : (r * 256 + Nt.lb xs m) % d + d * ((r * 256 + Nt.lb xs m) / d) = r * 256 + Nt.lb xs m := Int.emod_add_mul_ediv _ _
  generalize (r * 256 + Nt.lb xs m) % d = s at *
  generalize (r * 256 + Nt.lb xs m) / d = q at *
  have e2 : (s + d * q) * Nb.pw m = (r * 256 + Nt.lb xs m) * Nb.pw m := by rw [e]
  rw [Int.add_mul, Int.add_mul] at e2
  rw [Int.add_mul, ← Int.mul_assoc r]
  have e3 : q * Nb.pw m * d = d * q * Nb.pw m := by rw [Int.mul_comm, ← Int.mul_assoc]
  rw [e3]
  omega

set_option maxHeartbeats 1000000 in
theorem rsmall_no {w : World} {va : Value} :
    Calls Tryd.prog 93 #[va, .int .u32 0] w fun e w' => e = .returned (.tuple #[.slice none 0 0, .int .u32 0, .bool false]) ∧ w' = w := by
  go_enter Tryd.func93, Tryd.ntmps93
  go_wp2
  go_ret3
  exact ⟨rfl, rfl⟩

set_option maxHeartbeats 2000000 in
theorem rsmall_yes {w : World} {va : Value} {n d : Int} {ka : Nat} (ha : Arg w va n ka) (hka : ka ≤ 1099511627776) (hd0 : 0 < d) (hd1 : d < 4294967296) :
    Calls Tryd.prog 93 #[va, .int .u32 d] w fun e w' => ∃ v, e = .returned (.tuple #[v, .int .u32 (n % d), .bool true]) ∧ Num w.heap.size w' v (n / d) ka ∧ Below w.heap.size w w' := by
  have hdz : (d == 0) = false := by simp; omega
  go_enter Tryd.func93, Tryd.ntmps93
  go_wp2_with fail
  refine (bytes_any ha hka).mono ?_
  rintro e w1 ⟨v1, rfl, ⟨xs, ⟨ao, ca, rfl, hxl, hxm, hxc⟩, hx, rfl, hxk⟩, hb1⟩
  clear ha
  go_wp2_with (at_make; refine wpList_make_row _ rfl _ _ 120 rfl 3 .i64 8 Tryd.underlying120 Tryd.infoI64 _ _ _ _ xs.length xs.length rfl rfl (by omega) (by omega) (Nat.le_refl _) (by omega) (by unfold maxLen; omega) ?_)
  intro w2 hr hbel hsz
  go_wp2
  go_loopw [9, 10] (fun sl si wr => ∃ (m : Nat) (r : Int) (zs : List Int), m ≤ xs.length ∧ si = .int .i64 ((m : Int) - 1) ∧ sl = .int .i64 r ∧ 0 ≤ r ∧ r < d ∧ zs.length = xs.length ∧ Nb.Ok zs ∧ (∀ j, j < m → Nt.lb zs j = 0) ∧ Row .i64 3 wr w1.heap.size zs ∧ Below w1.heap.size w1 wr ∧
      Nb.val xs = Nb.vt xs m + Nb.val zs * d + r * Nb.pw m) (fun _ si _ => (intOf si + 1).toNat)
  case atStart => exact ⟨xs.length, 0, List.replicate xs.length 0, Nat.le_refl _, rfl, rfl, by omega, by omega, by simp, Nb.ok_replicate _, fun j _ => Nt.lb_replicate _ _, hr, hbel, by
    have e : Nb.val (List.replicate xs.length 0) = 0 := by
      unfold Nb.val; rw [Nb.vt_cut (k := 0) (by omega) (fun i _ _ => Nt.lb_replicate _ _)]; rfl
    rw [e]; simp [Nb.val]⟩
  case round =>
    obtain ⟨m, r, zs, hml, rfl, rfl, hr0, hr1, hzl, hzo, hz0, hrow, hbr, heq⟩ := hrel
    have Heq := hide heq
    have Hzl := hide hzl
    have Hz := hide hz0
    clear heq hzl hz0 hr hbel
    by_cases hm0 : m = 0
    · subst hm0
      have hz2 : zs.length = xs.length := Hzl.out
      have hfin : Nb.val xs = Nb.val zs * d + r := by
        have := Heq.out
        simp only [Nb.vt, Nb.pw] at this
        omega
      have hq : Nb.val xs / d = Nb.val zs ∧ Nb.val xs % d = r := by
        rw [Int.ediv_emod_unique hd0]
        refine ⟨?_, hr0, hr1⟩
        rw [hfin, Int.mul_comm]; omega
      have hrd : Reads .i64 wr (.slice (some ⟨w1.heap.size, 0, none⟩) xs.length xs.length) zs := ⟨_, xs.length, by rw [hz2], by omega, by unfold maxLen; omega, fun _ => ⟨w1.heap.size, 0, rfl, hrow.lt, fun i hi => by rw [Nat.zero_add]; exact hrow.cell hi⟩⟩
      have hla := limbs_any (ka := xs.length) ⟨zs, hrd, hzo, rfl, by omega⟩ (by omega)
      have Hla := hide hla
      have Hq := hide hq
      clear hz2 hfin hq hrd hla
      go_wp2_with fail
      refine Calls.mono Hla.out ?_
      rintro e w5 ⟨v, rfl, hv, hb5⟩
      go_wp2
      go_ret3
      refine ⟨v, ?_, ?_, below_trans hb1 (hbr.trans (hb5.mono hbr.size))⟩
      · rw [Hq.out.2]
        rfl
      · rw [Hq.out.1]
        exact (num_since hv (by have := hb1.size; have := hbr.size; omega)).mono (by omega)
    · obtain ⟨p, rfl⟩ : ∃ p, m = p + 1 := ⟨m - 1, by omega⟩
      obtain ⟨b1, o1, rfl, hbb, hc1⟩ := (hxc.below hbr) (by omega)
      have hpl : p < xs.length := by omega
      have g1 := hc1 p hpl
      have g2 := hrow.cell (i := p) (by have := Hzl.out; omega)
      have hfz := hrow.frozen p
      obtain ⟨bx0, bx1⟩ := hx.1 p
      have q0 : 0 ≤ (r * 256 + Nt.lb xs p) / d := Int.ediv_nonneg (by omega) (by omega)
      have q1 : (r * 256 + Nt.lb xs p) / d < 256 := Int.ediv_lt_of_lt_mul (by omega) (by omega)
      have r0 : 0 ≤ (r * 256 + Nt.lb xs p) % d := Int.emod_nonneg _ (by omega)
      have r1 : (r * 256 + Nt.lb xs p) % d < d := Int.emod_lt_of_pos _ (by omega)
      have Hst := hide (bsmall_step (xs := xs) (zs := zs) (m := p) (r := r) (d := d) (V := Nb.val xs) (by have := Hzl.out; omega) (Hz.out _ (by omega)) Heq.out)
      clear hc1 hxc
      go_wp2
      go_roundw
      case rel => exact ⟨p, (r * 256 + Nt.lb xs p) % d, zs.set p ((r * 256 + Nt.lb xs p) / d), by omega, rfl, rfl, r0, r1, by have := Hzl.out; simp [this], Nb.ok_set hzo ⟨q0, q1⟩, fun j hj => by
        rw [Nt.lb_set_ne (by omega)]; exact Hz.out j (by omega), hrow.set _ _, hbr.setCell (p := ⟨w1.heap.size, p, none⟩) (Nat.le_refl _) _, Hst.out⟩
      case measure => simp [intOf]

end Go.Proofs.YtgaldbfgmbaebaaDoor

namespace Go.Proofs.YtgaldbfgmbaebaaDoor
open Go.RowKit

theorem b_val_set {zs : List Int} {i : Nat} (hi : i < zs.length) (q : Int) : Nb.val (zs.set i q) = Nb.val zs + (q - Nt.lb zs i) * Nb.pw i := by
  have : ∀ n, i < n → Nb.vt (zs.set i q) n = Nb.vt zs n + (q - Nt.lb zs i) * Nb.pw i := by
    intro n
    induction n with
    | zero => intro h; omega
    | succ n ih =>
      intro h
      rw [Nb.vt_succ, Nb.vt_succ]
      by_cases e : i = n
      · subst e; rw [Nb.vt_set (Nat.le_refl _), Nt.lb_set_eq hi, Int.sub_mul]; omega
      · rw [Nt.lb_set_ne e, ih (by omega)]; omega
  unfold Nb.val
  rw [List.length_set]
  exact this _ hi

/-- a byte laid, the rest carried on -/
theorem lay_step {zs : List Int} {p : Nat} {c d : Int} (hp : p < zs.length) :
    Nb.val (zs.set p ((Nt.lb zs p + d + c) % 256)) + (Nt.lb zs p + d + c) / 256 * Nb.pw (p + 1) = Nb.val zs + c * Nb.pw p + d * Nb.pw p := by
  rw [b_val_set hp, Nb.pw_succ]
  have e := byte_step (V := Nb.val zs) (x := Nt.lb zs p + d + c) (P := Nb.pw p)
  rw [Int.sub_mul]
  rw [Int.add_mul, Int.add_mul] at e
  omega
theorem mul_lt {a b P Q : Int} (ha : 0 ≤ a ∧ a < P) (hb : 0 ≤ b ∧ b < Q) : a * b < P * Q := by
  have h1 : a * b ≤ a * Q := Int.mul_le_mul_of_nonneg_left (by omega) ha.1
  have h2 : (a + 1) * Q ≤ P * Q := Int.mul_le_mul_of_nonneg_right (by omega) (by omega)
  rw [Int.add_mul] at h2
  omega
theorem byte_prod {x y : Int} (hx : 0 ≤ x ∧ x < 256) (hy : 0 ≤ y ∧ y < 256) : 0 ≤ x * y ∧ x * y ≤ 65025 := by
  refine ⟨Int.mul_nonneg hx.1 hy.1, ?_⟩
  have h1 : x * y ≤ 255 * y := Int.mul_le_mul_of_nonneg_right (by omega) hy.1
  omega

theorem heap_drewN (w : World) (n : Nat) : (w.drewN n).heap = w.heap := by
  induction n with
  | zero => rfl
  | succ n ih => exact ih
theorem row_drewN {k : IntKind} {E : TypeId} {w : World} {n g : Nat} {zs : List Int} : Row k E (w.drewN n) g zs = Row k E w g zs := by
  unfold Row; rw [heap_drewN]
theorem below_drewN' {B : Nat} {a w : World} {n : Nat} (h : Below B a w) : Below B a (w.drewN n) := by
  induction n with
  | zero => exact h
  | succ n ih => exact ih.drew

set_option maxRecDepth 100000 in
set_option maxHeartbeats 4000000 in
theorem rmul_any {w : World} {va vb : Value} {n m : Int} {ka kb : Nat} (ha : Arg w va n ka) (hb : Arg w vb m kb) (hka : ka ≤ 549755813888) (hkb : kb ≤ 549755813888) :
    Calls Tryd.prog 90 #[va, vb] w fun e w' => ∃ v, e = .returned v ∧ Num w.heap.size w' v (n * m) (ka + kb + 1) ∧ Below w.heap.size w w' := by
  go_enter Tryd.func90, Tryd.ntmps90
  go_wp2_with fail
  refine (bytes_any ha (by omega)).mono ?_
  rintro e w1 ⟨v1, rfl, ⟨xs, ⟨ao, ca, rfl, hxl, hxm, hxc⟩, hx, rfl, hxk⟩, hb1⟩
  go_wp2_with fail
  refine (bytes_any (hb.below hb1) (by omega)).mono ?_
  rintro e w2 ⟨v2, rfl, ⟨ys, ⟨bo, cb, rfl, hyl, hym, hyc⟩, hy, rfl, hyk⟩, hb2⟩
  replace hxc := hxc.below hb2
  have hbb := below_trans hb1 hb2
  clear ha hb hb1 hb2
  go_wp2_with (at_make; refine wpList_make_row _ rfl _ _ 120 rfl 3 .i64 8 Tryd.underlying120 Tryd.infoI64 _ _ _ _ (xs.length + ys.length + 1) (xs.length + ys.length + 1) rfl rfl (by omega) (by omega) (Nat.le_refl _) (by omega) (by unfold maxLen; omega) ?_)
  intro w3 hr hbel hsz
  go_wp2
  go_loopw [8] (fun si wr => ∃ (i : Nat) (zs : List Int), i ≤ xs.length ∧ si = .int .i64 i ∧ zs.length = xs.length + ys.length + 1 ∧ Nb.Ok zs ∧ Nb.val zs = Nb.vt xs i * Nb.val ys ∧ Row .i64 3 wr w2.heap.size zs ∧ Below w2.heap.size w2 wr) (fun si _ => xs.length - (intOf si).toNat)
  case atStart => exact ⟨0, List.replicate (xs.length + ys.length + 1) 0, by omega, rfl, by simp, Nb.ok_replicate _, by
    have e : Nb.val (List.replicate (xs.length + ys.length + 1) 0) = 0 := by
      unfold Nb.val; rw [Nb.vt_cut (k := 0) (by omega) (fun i _ _ => Nt.lb_replicate _ _)]; rfl
    rw [e]; simp [Nb.vt], hr, hbel⟩
  case round =>
    obtain ⟨i, zs, hil, rfl, hzl, hzo, hzv, hrow, hbr⟩ := hrel
    have Hzl := hide hzl
    have Hzv := hide hzv
    clear hzl hzv hr hbel
    by_cases hlt : i < xs.length
    · obtain ⟨b1, o1, rfl, hb1, hc1⟩ := (hxc.below hbr) (by omega)
      have gx0 := hc1 i hlt
      obtain ⟨bx0, bx1⟩ := hx.1 i
      clear hc1
      have hlt' : (i : Int) < (xs.length : Int) := by omega
      go_wp2
      go_loopw [9, 10] (fun sc sk wq => ∃ (k : Nat) (c : Int) (us : List Int), k ≤ ys.length ∧ sk = .int .i64 k ∧ sc = .int .i64 c ∧ 0 ≤ c ∧ c < 256 ∧ us.length = xs.length + ys.length + 1 ∧ Nb.Ok us ∧ Nb.val us + c * Nb.pw (i + k) = Nb.vt xs i * Nb.val ys + Nt.lb xs i * Nb.vt ys k * Nb.pw i ∧
          Row .i64 3 wq w2.heap.size us ∧ Below w2.heap.size w2 wq) (fun _ sk _ => ys.length - (intOf sk).toNat)
      case atStart => exact ⟨0, 0, zs, by omega, rfl, rfl, by omega, by omega, Hzl.out, hzo, by rw [Hzv.out]; simp [Nb.vt], hrow, hbr⟩
      case round =>
        obtain ⟨k, c, us, hkl, rfl, rfl, hc0, hc1, hul, huo, huv, hrowu, hbu⟩ := hrel
        have Hul := hide hul
        have Huv := hide huv
        clear hul huv hrow gx0
        by_cases hk : k < ys.length
        · obtain ⟨b2, o2, rfl, hb2, hc2⟩ := (hyc.below hbu) (by omega)
          have gy := hc2 k hk
          obtain ⟨b1', o1', he, _, hc1'⟩ := (hxc.below hbu) (by omega)
          have gx := hc1' i hlt
          simp only [Option.some.injEq, Addr.mk.injEq, and_true] at he
          obtain ⟨rfl, rfl⟩ := he
          have gz := hrowu.cell (i := i + k) (by have := Hul.out; omega)
          have hfz := hrowu.frozen (i + k)
          obtain ⟨by0, by1⟩ := hy.1 k
          obtain ⟨bz0, bz1⟩ := huo (i + k)
          obtain ⟨p0, p1⟩ := byte_prod ⟨bx0, bx1⟩ ⟨by0, by1⟩
          have hk' : (k : Int) < (ys.length : Int) := by omega
          have hik : (i : Int) + (k : Int) < (xs.length : Int) + (ys.length : Int) + 1 := by omega
          have Hst := hide (lay_step (zs := us) (p := i + k) (c := c) (d := Nt.lb xs i * Nt.lb ys k) (by have := Hul.out; omega))
          clear hc1' hc2
          go_wp2
          go_quiet (fail)
          go_wp2
          go_roundw
          case rel => exact ⟨k + 1, (Nt.lb us (i + k) + Nt.lb xs i * Nt.lb ys k + c) / 256, us.set (i + k) ((Nt.lb us (i + k) + Nt.lb xs i * Nt.lb ys k + c) % 256), by omega, by go_num, rfl, by omega, by omega, by rw [List.length_set, Hul.out], Nb.ok_set huo (by omega), by
            rw [← Nat.add_assoc, Hst.out, Huv.out, Nb.vt_succ, Nb.pw_add, Int.mul_add, Int.add_mul]
            have e : Nt.lb xs i * Nt.lb ys k * (Nb.pw i * Nb.pw k) = Nt.lb xs i * (Nt.lb ys k * Nb.pw k) * Nb.pw i := by
              rw [Int.mul_comm (Nb.pw i), Int.mul_assoc, Int.mul_assoc, Int.mul_assoc]
            omega, Row.set (by rw [row_drewN]; exact hrowu) _ _, Below.setCell (p := ⟨w2.heap.size, i + k, none⟩) (below_drewN' hbu) (Nat.le_refl _) _⟩
          case measure => simp [intOf]; omega
        · have hke : k = ys.length := by omega
          subst hke
          have hk' : ¬ (ys.length : Int) < (ys.length : Int) := by omega
          obtain ⟨T, hT⟩ : ∃ T, T = Nb.vt xs (i + 1) * Nb.val ys := ⟨_, rfl⟩
          have hT2 : Nb.val us + c * Nb.pw (i + ys.length) = T := by
            rw [hT, Huv.out, Nb.vt_succ, Int.add_mul, Int.mul_right_comm]; rfl
          have hTb : T < Nb.pw (xs.length + ys.length) := by
            rw [hT, Nb.pw_add]
            have h1 := Nb.vt_bounds hx.1 (i + 1)
            have h2 := Nb.pw_mono (m := i + 1) (n := xs.length) (by omega)
            exact mul_lt ⟨h1.1, by omega⟩ ⟨Nb.val_nonneg hy.1, Nb.val_lt hy.1⟩
          have HT := hide hT
          have HT2 := hide hT2
          have HTb := hide hTb
          clear hT hT2 hTb Huv
          go_wp2
          go_loopw [9, 12] (fun sc sk wq => ∃ (k : Nat) (c : Int) (us : List Int), k ≤ xs.length + ys.length ∧ sk = .int .i64 k ∧ sc = .int .i64 c ∧ 0 ≤ c ∧ c < 256 ∧ us.length = xs.length + ys.length + 1 ∧ Nb.Ok us ∧ Nb.val us + c * Nb.pw k = T ∧
              Row .i64 3 wq w2.heap.size us ∧ Below w2.heap.size w2 wq) (fun _ sk _ => xs.length + ys.length - (intOf sk).toNat)
          case atStart => exact ⟨i + ys.length, c, us, by omega, by go_num, rfl, hc0, hc1, Hul.out, huo, HT2.out, hrowu, hbu⟩
          case round =>
            clear hrowu hc0 hc1 HT2 hbu
            obtain ⟨k, c, us, hkl, rfl, rfl, hc0, hc1, hul, huo, huv, hrowu, hbu⟩ := hrel
            have Hul := hide hul
            have Huv := hide huv
            clear hul huv
            by_cases hp : 0 < c
            · have hkk : k < xs.length + ys.length := by
                by_cases h : k < xs.length + ys.length
                · exact h
                · have h1 := Nb.pw_mono (m := xs.length + ys.length) (n := k) (by omega)
                  have h2 := Nb.val_nonneg huo
                  have h3 : 1 * Nb.pw k ≤ c * Nb.pw k := Int.mul_le_mul_of_nonneg_right (by omega) (by have := Nb.pw_pos k; omega)
                  have h4 := Huv.out
                  have h5 := HTb.out
                  omega
              have gz := hrowu.cell (i := k) (by have := Hul.out; omega)
              have hfz := hrowu.frozen k
              obtain ⟨bz0, bz1⟩ := huo k
              have Hst := hide (lay_step (zs := us) (p := k) (c := c) (d := 0) (by have := Hul.out; omega))
              go_wp2
              go_roundw
              case rel => exact ⟨k + 1, (Nt.lb us k + c) / 256, us.set k ((Nt.lb us k + c) % 256), by omega, by go_num, rfl, by omega, by omega, by rw [List.length_set, Hul.out], Nb.ok_set huo (by omega), by
                have h := Hst.out
                rw [Int.add_zero, Int.zero_mul, Int.add_zero] at h
                rw [h]; exact Huv.out, hrowu.set _ _, hbu.setCell (p := ⟨w2.heap.size, k, none⟩) (Nat.le_refl _) _⟩
              case measure => simp [intOf]; omega
            · have hc00 : c = 0 := by omega
              subst hc00
              go_wp2
              go_roundw
              case rel => exact ⟨i + 1, us, by omega, by go_num, Hul.out, huo, by
                have h := Huv.out
                rw [Int.zero_mul, Int.add_zero] at h
                rw [h]; exact HT.out, hrowu, hbu⟩
              case measure => simp [intOf]; omega
    · have hke : i = xs.length := by omega
      subst hke
      have hk' : ¬ (xs.length : Int) < (xs.length : Int) := by omega
      have hz2 : zs.length = xs.length + ys.length + 1 := Hzl.out
      have hfin : Nb.val zs = Nb.val xs * Nb.val ys := Hzv.out
      have hrd : Reads .i64 wr (.slice (some ⟨w2.heap.size, 0, none⟩) (xs.length + ys.length + 1) (xs.length + ys.length + 1)) zs := ⟨_, xs.length + ys.length + 1, by rw [hz2], by omega, by unfold maxLen; omega, fun _ => ⟨w2.heap.size, 0, rfl, hrow.lt, fun i hi => by rw [Nat.zero_add]; exact hrow.cell hi⟩⟩
      have hla := limbs_any (ka := xs.length + ys.length + 1) ⟨zs, hrd, hzo, rfl, by omega⟩ (by omega)
      rw [hfin] at hla
      have Hla := hide hla
      clear hfin hrd hla hz2
      go_wp2_with fail
      refine Calls.mono Hla.out ?_
      rintro e w5 ⟨v, rfl, hv, hb5⟩
      go_wp2
      go_ret
      exact ⟨v, rfl, (num_since hv (by have := hbb.size; have := hbr.size; omega)).mono (by omega), below_trans hbb (hbr.trans (hb5.mono hbr.size))⟩

end Go.Proofs.YtgaldbfgmbaebaaDoor
