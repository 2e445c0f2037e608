/- RefBD -/
import Derived.Test.YtejenbkhhcjeaaaGreatDoorR03
import Derived.Deep.RegionWith
import Derived.Deep.QuietTactic
import Derived.BigQuiet
namespace Go.Proofs.YtejenbkhhcjeaaaGreatDoor
open Go.RowKit

/-- the length of a number by its highest byte -/
theorem isLen_byte {xs : List Int} {k : Nat} (hx : Nb.Canon xs) (hn : 0 < xs.length) (h : IsLen (Nt.lb xs (xs.length - 1)) k) : IsLen (Nb.val xs) (8 * (xs.length - 1) + k) := by
  obtain ⟨n, hl⟩ : ∃ n, xs.length = n + 1 := ⟨xs.length - 1, by omega⟩
  have hne : xs ≠ [] := by intro e; subst e; simp at hn
  have h0 := hx.2 hne
  have hb := hx.1 n
  have hv := Nb.vt_bounds hx.1 n
  rw [hl, Nat.add_sub_cancel] at h h0 ⊢
  have hval : Nb.val xs = Nb.vt xs n + Nt.lb xs n * Nb.pw n := by unfold Nb.val; rw [hl, Nb.vt_succ]
  have hp := Nb.pw_pos n
  have hk := len_pos h (by omega)
  rw [hval]
  refine ⟨?_, fun _ => ?_⟩
  · rw [p2_add, p2_8]
    have : Nb.pw n * (Nt.lb xs n + 1) ≤ Nb.pw n * p2 k := Int.mul_le_mul_of_nonneg_left (by have := h.1; omega) (by omega)
    rw [Int.mul_add, Int.mul_comm] at this
    omega
  · rw [show 8 * n + k - 1 = 8 * n + (k - 1) by omega, p2_add, p2_8]
    have : Nb.pw n * p2 (k - 1) ≤ Nb.pw n * Nt.lb xs n := Int.mul_le_mul_of_nonneg_left (h.2 hk) (by omega)
    rw [Int.mul_comm _ (Nt.lb xs n)] at this
    omega

theorem half_step {T : Int} {j : Nat} (hp : 0 < T / p2 j) : T / p2 j / 2 = T / p2 (j + 1) ∧ p2 (j + 1 - 1) ≤ T := by
  have h2 := p2_pos j
  refine ⟨?_, ?_⟩
  · rw [Int.ediv_ediv_of_nonneg (by omega)]
    congr 1
    simp only [p2]; omega
  · rw [Nat.add_sub_cancel]
    by_cases h : p2 j ≤ T
    · exact h
    · by_cases h0 : 0 ≤ T
      · rw [Int.ediv_eq_zero_of_lt h0 (by omega)] at hp; omega
      · have := Int.ediv_neg_of_neg_of_pos (show T < 0 by omega) h2; omega

set_option maxHeartbeats 1000000 in
theorem rlen_any {w : World} {va : Value} {A : Int} {ka k : Nat} (ha : Arg w va A ka) (hka : ka ≤ 1099511627776) (hk : IsLen A k) :
    Calls Tryz.prog 28 #[va] w fun e w' => e = .returned (.int .i64 k) ∧ Below w.heap.size w w' := by
  have HK := hide hk
  clear hk
  go_enter Tryz.func28, Tryz.ntmps28
  go_wp2_with fail
  refine (bytes_any ha hka).mono ?_
  rintro e w1 ⟨v1, rfl, ⟨ys, ⟨ao, cap, rfl, hl, hm, hyc⟩, hy, rfl, hyk⟩, hb1⟩
  clear ha
  by_cases h0 : ys.length = 0
  · have h0' : ((ys.length : Int) == 0) = true := by simp [h0]
    have hye : ys = [] := List.eq_nil_of_length_eq_zero h0
    clear h0
    go_wp2
    go_ret
    have hk0 : k = 0 := isLen_unique HK.out (by rw [hye]; exact ⟨by decide, fun h => by omega⟩)
    rw [hk0]
    exact ⟨rfl, hb1⟩
  · have h0' : ((ys.length : Int) == 0) = false := by simp; intro e; subst e; simp at h0
    obtain ⟨b, off, rfl, hb, hcell⟩ := hyc (by omega)
    have hg := hcell (ys.length - 1) (by omega)
    have hp : (1 : Int) ≤ (ys.length : Int) := by omega
    obtain ⟨bx0, bx1⟩ := hy.1 (ys.length - 1)
    obtain ⟨T, hT⟩ : ∃ T, Nt.lb ys (ys.length - 1) = T := ⟨_, rfl⟩
    rw [hT] at hg bx0 bx1
    have HT := hide hT
    clear hcell hyc hT
    go_wp2
    go_loop [4, 5] (fun sn st => ∃ (j : Nat) (t : Int), sn = .int .i64 (8 * ((ys.length : Int) - 1) + j) ∧ st = .int .i64 t ∧ 0 ≤ t ∧ t < 256 ∧ t = T / p2 j ∧ (0 < j → p2 (j - 1) ≤ T) ∧ j ≤ 8) (fun _ st => (intOf st).toNat)
    case atStart => exact ⟨0, T, by simp, rfl, bx0, bx1, by simp [p2], fun h => by omega, by omega⟩
    case round =>
      obtain ⟨j, t, rfl, rfl, ht0, ht1, ht, hj, hj8⟩ := hrel
      have Ht := hide ht
      have Hj := hide hj
      clear ht hj
      by_cases hp0 : 0 < t
      · have hs := half_step (T := T) (j := j) (by rw [← Ht.out]; exact hp0)
        have hj9 : j + 1 ≤ 8 := by
          by_cases h : j + 1 ≤ 8
          · exact h
          · have h1 := hs.2
            have h2 := p2_mono (m := 8) (n := j + 1 - 1) (by omega)
            rw [show p2 8 = 256 by decide] at h2
            omega
        have Hs := hide hs
        clear hs
        go_wp2
        go_round
        case rel => exact ⟨j + 1, t / 2, by go_num, rfl, by omega, by omega, by rw [Ht.out]; exact Hs.out.1, fun _ => Hs.out.2, hj9⟩
        case measure => simp [intOf]; omega
      · have ht00 : t = 0 := by omega
        have hlt : T < p2 j := by
          have h := Ht.out
          rw [ht00] at h
          have h2 := p2_pos j
          have h3 := Int.mul_ediv_add_emod T (p2 j)
          have h4 := Int.emod_lt_of_pos T h2
          rw [← h, Int.mul_zero] at h3
          omega
        have hfin := isLen_byte hy (by omega) (k := j) (by rw [HT.out]; exact ⟨hlt, Hj.out⟩)
        have hke : k = 8 * (ys.length - 1) + j := isLen_unique HK.out hfin
        have Hke := hide hke
        clear hfin hlt hke
        go_wp2
        go_ret
        refine ⟨ret_int ?_, hb1⟩
        have := Hke.out
        omega

set_option maxHeartbeats 1000000 in
theorem rcmp_any {w : World} {va vb : Value} {n m : Int} {ka kb : Nat} (ha : Arg w va n ka) (hb : Arg w vb m kb) (hka : ka ≤ 1099511627776) (hkb : kb ≤ 1099511627776) :
    Calls Tryz.prog 107 #[va, vb] w fun e w' => e = .returned (.int .i64 (sgn n m)) ∧ Below w.heap.size w w' := by
  go_enter Tryz.func107, Tryz.ntmps107
  go_wp2_with fail
  refine (bytes_any ha hka).mono ?_
  rintro e w1 ⟨v1, rfl, ⟨xs, ⟨ao, ca, rfl, hxl, hxm, hxc⟩, hx, rfl, hxk⟩, hb1⟩
  go_wp2_with fail
  refine (bytes_any (hb.below hb1) hkb).mono ?_
  rintro e w2 ⟨v2, rfl, ⟨ys, ⟨bo, cb, rfl, hyl, hym, hyc⟩, hy, rfl, hyk⟩, hb2⟩
  replace hxc := hxc.below hb2
  have hbb := below_trans hb1 hb2
  clear ha hb hb1 hb2
  by_cases hl : xs.length = ys.length
  · have hl1 : ((xs.length : Int) != (ys.length : Int)) = false := by simp [hl]
    have Hl := hide hl
    clear hl
    go_wp2
    go_loopw [7] (fun si wr => ∃ j : Nat, j ≤ xs.length ∧ si = .int .i64 ((j : Int) - 1) ∧ (∀ i, j ≤ i → i < xs.length → Nt.lb xs i = Nt.lb ys i) ∧ Below w2.heap.size w2 wr) (fun si _ => (intOf si + 1).toNat)
    case atStart => exact ⟨xs.length, Nat.le_refl _, rfl, fun i h1 h2 => by omega, Below.refl _ _⟩
    case round =>
      obtain ⟨j, hj, rfl, hsame, hbr⟩ := hrel
      have HS := hide hsame
      clear hsame
      by_cases hj0 : j = 0
      · subst hj0
        go_wp2
        go_ret
        refine ⟨?_, hbb.trans (hbr.mono hbb.size)⟩
        rw [sgn_eq]
        · rfl
        · unfold Nb.val
          rw [← Hl.out]
          exact Nb.vt_congr fun i hi => HS.out i (by omega) hi
      · obtain ⟨p, rfl⟩ : ∃ p, j = p + 1 := ⟨j - 1, by omega⟩
        have hpx : p < xs.length := by omega
        have hpy : p < ys.length := by have := Hl.out; omega
        obtain ⟨b1, o1, rfl, _, hc1⟩ := (hxc.below hbr) (by omega)
        obtain ⟨b2, o2, rfl, _, hc2⟩ := (hyc.below hbr) (by omega)
        have g1 := hc1 p hpx
        have g2 := hc2 p hpy
        clear hc1 hc2 hxc hyc
        rcases Int.lt_trichotomy (Nt.lb xs p) (Nt.lb ys p) with h | h | h
        · have hq' : (Nt.lb xs p != Nt.lb ys p) = true := by simp; omega
          have hs := hide (sgn_lt (by unfold Nb.val; rw [← Hl.out]; exact Nb.vt_lt_at hx.1 hy.1 (p := p) hpx (fun i a b => HS.out i (by omega) b) h : Nb.val xs < Nb.val ys))
          go_wp2
          go_region
          all_goals go_wp2
          all_goals go_region
          all_goals go_wp2
          all_goals go_ret
          all_goals
            refine ⟨?_, hbb.trans (Below.mono (by repeat (first | exact hbr | apply Below.drew)) hbb.size)⟩
            rw [hs.out]
            rfl
        · have hq' : (Nt.lb xs p != Nt.lb ys p) = false := by simp [h]
          have Hq := hide h
          clear h
          go_wp2
          go_region
          all_goals go_wp2
          all_goals go_roundw
          all_goals first
            | exact ⟨p, by omega, rfl, fun i h1 h2 => by
                by_cases e : i = p
                · subst e; exact Hq.out
                · exact HS.out i (by omega) h2, by repeat (first | exact hbr | apply Below.drew)⟩
            | simp [intOf]
        · have hq' : (Nt.lb xs p != Nt.lb ys p) = true := by simp; omega
          have h' : ¬ Nt.lb xs p < Nt.lb ys p := by omega
          have hs := hide (sgn_gt (by unfold Nb.val; rw [← Hl.out]; exact Nb.vt_lt_at hy.1 hx.1 (p := p) hpx (fun i a b => (HS.out i (by omega) b).symm) h : Nb.val ys < Nb.val xs))
          go_wp2
          go_region
          all_goals go_wp2
          all_goals go_region
          all_goals go_wp2
          all_goals go_ret
          all_goals
            refine ⟨?_, hbb.trans (Below.mono (by repeat (first | exact hbr | apply Below.drew)) hbb.size)⟩
            rw [hs.out]
            rfl
  · have hl1 : ((xs.length : Int) != (ys.length : Int)) = true := by simp; omega
    by_cases hlt : xs.length < ys.length
    · have hs := hide (sgn_lt (Nb.canon_lt hx.1 hy hlt))
      go_wp2
      go_ret
      refine ⟨?_, hbb⟩
      rw [hs.out]
      rfl
    · have hs := hide (sgn_gt (Nb.canon_lt hy.1 hx (by omega)))
      have hlt' : ¬ (xs.length : Int) < (ys.length : Int) := by omega
      go_wp2
      go_ret
      refine ⟨?_, hbb⟩
      rw [hs.out]
      rfl

end Go.Proofs.YtejenbkhhcjeaaaGreatDoor

namespace Go.Proofs.YtejenbkhhcjeaaaGreatDoor
open Go.RowKit

/-- one round of a sum, bytes -/
theorem badd_step {xs ys zs : List Int} {c : Int} (h : Nb.val zs + c * Nb.pw zs.length = Nb.vt xs zs.length + Nb.vt ys zs.length) :
    Nb.val (zs ++ [(Nt.lb xs zs.length + Nt.lb ys zs.length + c) % 256]) + (Nt.lb xs zs.length + Nt.lb ys zs.length + c) / 256 * Nb.pw (zs.length + 1) = Nb.vt xs (zs.length + 1) + Nb.vt ys (zs.length + 1) := by
  rw [Nb.val_snoc, Nb.pw_succ, byte_step, Nb.vt_succ, Nb.vt_succ, Int.add_mul, Int.add_mul]
  omega

set_option maxHeartbeats 4000000 in
theorem radd_any {w : World} {va vb : Value} {n m : Int} {ka kb : Nat} (ha : Arg w va n ka) (hb : Arg w vb m kb) (hka : ka ≤ 1099511627776) (hkb : kb ≤ 1099511627776) :
    Calls Tryz.prog 108 #[va, vb] w fun e w' => ∃ v, e = .returned v ∧ Num w.heap.size w' v (n + m) (ka + kb + 1) ∧ Below w.heap.size w w' := by
  go_enter Tryz.func108, Tryz.ntmps108
  go_wp2_with fail
  refine (bytes_any ha hka).mono ?_
  rintro e w1 ⟨v1, rfl, ⟨xs, ⟨ao, ca, rfl, hxl, hxm, hxc⟩, hx, rfl, hxk⟩, hb1⟩
  go_wp2_with fail
  refine (bytes_any (hb.below hb1) hkb).mono ?_
  rintro e w2 ⟨v2, rfl, ⟨ys, ⟨bo, cb, rfl, hyl, hym, hyc⟩, hy, rfl, hyk⟩, hb2⟩
  replace hxc := hxc.below hb2
  have hbb := below_trans hb1 hb2
  clear ha hb hb1 hb2
  have hxmx : xs.length ≤ maxLen := by omega
  have hymx : ys.length ≤ maxLen := by omega
  go_wp2
  go_loopw [7, 8, 9] (fun out sc si wr => ∃ (q : Int) (zs : List Int), si = .int .i64 zs.length ∧ sc = .int .i64 q ∧ 0 ≤ q ∧ q ≤ 1 ∧ zs.length ≤ max xs.length ys.length + 1 ∧ (max xs.length ys.length < zs.length → q = 0) ∧ Nb.Ok zs ∧ Nb.val zs + q * Nb.pw zs.length = Nb.vt xs zs.length + Nb.vt ys zs.length ∧
      wr.ownsRow w2.heap.size 3 1 out zs.length (zs.map (Value.int .i64)) ∧ Below w2.heap.size w2 wr) (fun _ _ si _ => max xs.length ys.length + 1 - (intOf si).toNat)
  case atStart => exact ⟨0, [], rfl, rfl, by omega, by omega, by simp, fun h => by simp at h, Nb.ok_nil, by simp [Nb.val, Nb.vt], by simpa using World.ownsRow_nil w2 w2.heap.size 3 1, Below.refl _ _⟩
  case round =>
    obtain ⟨q, zs, rfl, rfl, hq0, hq1, hzl, hqz, hzo, heq, hown, hbr⟩ := hrel
    have Heq := hide heq
    have Hqz := hide hqz
    clear heq hqz
    have hcx := hxc.below hbr
    have hcy := hyc.below hbr
    obtain ⟨k, hk⟩ : ∃ k, zs.length = k := ⟨_, rfl⟩
    have bx := hx.1 k
    have by' := hy.1 k
    obtain ⟨bx0, bx1⟩ := bx
    obtain ⟨by0, by1⟩ := by'
    have hsz := hbr.size
    have hst := badd_step Heq.out
    rw [hk] at hown hzl hst ⊢
    have Hst := hide hst
    have Hk := hide hk
    clear hst hk
    have hkb' : k ≤ 8796093022209 := by omega
    by_cases h1 : k < xs.length
    · have hc1 : (k : Int) < (xs.length : Int) := by omega
      go_wp2_with fail
      refine (at_any ao ca xs k _ hxmx hcx).mono ?_
      rintro e w3 ⟨rfl, rfl⟩
      go_wp2_with fail
      refine (at_any bo cb ys k _ hymx hcy).mono ?_
      rintro e w3 ⟨rfl, rfl⟩
      go_wp2_with (at_builtin; refine wpList_append_cells _ rfl _ _ 99 rfl w2.heap.size 3 .i64 8 Tryz.underlying99 Tryz.infoI64 _ k zs rfl (hown.alloc _) _ 1 [(Nt.lb xs k + Nt.lb ys k + q) % 256] rfl (cells_one _ _ _ _) (by unfold maxLen; simp; omega) (by simp; omega) (by simp; omega) ?_)
      intro v' w4 hown' hgrow
      have hb4 : Below w2.heap.size w2 w4 := below_own (hbr.alloc hsz _) (by simp; omega) (hown.alloc _) hgrow
      have Hown' := hide hown'
      clear hown' hgrow hown hcx hcy
      go_wp2
      go_roundw
      case rel => exact ⟨(Nt.lb xs k + Nt.lb ys k + q) / 256, zs ++ [(Nt.lb xs k + Nt.lb ys k + q) % 256], by rw [List.length_append, List.length_singleton, Hk.out]; go_num, rfl, by omega, by omega, by rw [List.length_append, List.length_singleton, Hk.out]; omega, fun h => by
        rw [List.length_append, List.length_singleton, Hk.out] at h
        have e1 : Nt.lb xs k = 0 := Nt.lb_out (by omega)
        have e2 : Nt.lb ys k = 0 := Nt.lb_out (by omega)
        rw [e1, e2]; omega, Nb.ok_snoc hzo (by omega), by rw [List.length_append, List.length_singleton, Hk.out]; exact Hst.out, by simpa [Hk.out] using Hown'.out, hb4⟩
      case measure => simp [intOf]; omega
    by_cases h2 : k < ys.length
    · have hc1 : ¬ (k : Int) < (xs.length : Int) := by omega
      have hc2 : (k : Int) < (ys.length : Int) := by omega
      go_wp2_with fail
      refine (at_any ao ca xs k _ hxmx hcx).mono ?_
      rintro e w3 ⟨rfl, rfl⟩
      go_wp2_with fail
      refine (at_any bo cb ys k _ hymx hcy).mono ?_
      rintro e w3 ⟨rfl, rfl⟩
      go_wp2_with (at_builtin; refine wpList_append_cells _ rfl _ _ 99 rfl w2.heap.size 3 .i64 8 Tryz.underlying99 Tryz.infoI64 _ k zs rfl (hown.alloc _) _ 1 [(Nt.lb xs k + Nt.lb ys k + q) % 256] rfl (cells_one _ _ _ _) (by unfold maxLen; simp; omega) (by simp; omega) (by simp; omega) ?_)
      intro v' w4 hown' hgrow
      have hb4 : Below w2.heap.size w2 w4 := below_own (hbr.alloc hsz _) (by simp; omega) (hown.alloc _) hgrow
      have Hown' := hide hown'
      clear hown' hgrow hown hcx hcy
      go_wp2
      go_roundw
      case rel => exact ⟨(Nt.lb xs k + Nt.lb ys k + q) / 256, zs ++ [(Nt.lb xs k + Nt.lb ys k + q) % 256], by rw [List.length_append, List.length_singleton, Hk.out]; go_num, rfl, by omega, by omega, by rw [List.length_append, List.length_singleton, Hk.out]; omega, fun h => by
        rw [List.length_append, List.length_singleton, Hk.out] at h
        have e1 : Nt.lb xs k = 0 := Nt.lb_out (by omega)
        have e2 : Nt.lb ys k = 0 := Nt.lb_out (by omega)
        rw [e1, e2]; omega, Nb.ok_snoc hzo (by omega), by rw [List.length_append, List.length_singleton, Hk.out]; exact Hst.out, by simpa [Hk.out] using Hown'.out, hb4⟩
      case measure => simp [intOf]; omega
    by_cases h3 : 0 < q
    · have hc1 : ¬ (k : Int) < (xs.length : Int) := by omega
      have hc2 : ¬ (k : Int) < (ys.length : Int) := by omega
      have hkm : k ≤ max xs.length ys.length := by
        by_cases h : max xs.length ys.length < k
        · have := Hqz.out (by rw [Hk.out]; exact h); omega
        · omega
      go_wp2_with fail
      refine (at_any ao ca xs k _ hxmx hcx).mono ?_
      rintro e w3 ⟨rfl, rfl⟩
      go_wp2_with fail
      refine (at_any bo cb ys k _ hymx hcy).mono ?_
      rintro e w3 ⟨rfl, rfl⟩
      go_wp2_with (at_builtin; refine wpList_append_cells _ rfl _ _ 99 rfl w2.heap.size 3 .i64 8 Tryz.underlying99 Tryz.infoI64 _ k zs rfl (hown.alloc _) _ 1 [(Nt.lb xs k + Nt.lb ys k + q) % 256] rfl (cells_one _ _ _ _) (by unfold maxLen; simp; omega) (by simp; omega) (by simp; omega) ?_)
      intro v' w4 hown' hgrow
      have hb4 : Below w2.heap.size w2 w4 := below_own (hbr.alloc hsz _) (by simp; omega) (hown.alloc _) hgrow
      have Hown' := hide hown'
      clear hown' hgrow hown hcx hcy
      go_wp2
      go_roundw
      case rel => exact ⟨(Nt.lb xs k + Nt.lb ys k + q) / 256, zs ++ [(Nt.lb xs k + Nt.lb ys k + q) % 256], by rw [List.length_append, List.length_singleton, Hk.out]; go_num, rfl, by omega, by omega, by rw [List.length_append, List.length_singleton, Hk.out]; omega, fun h => by
        rw [List.length_append, List.length_singleton, Hk.out] at h
        have e1 : Nt.lb xs k = 0 := Nt.lb_out (by omega)
        have e2 : Nt.lb ys k = 0 := Nt.lb_out (by omega)
        rw [e1, e2]; omega, Nb.ok_snoc hzo (by omega), by rw [List.length_append, List.length_singleton, Hk.out]; exact Hst.out, by simpa [Hk.out] using Hown'.out, hb4⟩
      case measure => simp [intOf]; omega
    · have hc1 : ¬ (k : Int) < (xs.length : Int) := by omega
      have hc2 : ¬ (k : Int) < (ys.length : Int) := by omega
      have hc3 : ¬ 0 < q := by omega
      have hq00 : q = 0 := by omega
      have hfin : Nb.val zs = Nb.val xs + Nb.val ys := by
        have h := Heq.out
        rw [Hk.out, hq00, Int.zero_mul, Int.add_zero, Nb.vt_out (xs := xs) (by omega), Nb.vt_out (xs := ys) (by omega)] at h
        exact h
      have hrd : Reads .i64 wr _ zs := reads_of_owns hown
      have hla := limbs_any (ka := k) ⟨zs, hrd, hzo, rfl, by rw [Hk.out]; exact Nat.le_refl _⟩ (by omega)
      rw [hfin] at hla
      have Hla := hide hla
      clear hfin hrd hla hq00 hcx hcy
      go_wp2_with fail
      refine Calls.mono Hla.out ?_
      rintro e w5 ⟨v, rfl, hv, hb5⟩
      go_wp2
      go_ret
      exact ⟨v, rfl, (num_since hv (by have := hbb.size; have := hbr.size; omega)).mono (by omega), below_trans hbb (hbr.trans (hb5.mono hbr.size))⟩

/-- one round of a difference, bytes -/
theorem bsub_step {xs ys zs : List Int} {c D c' : Int} (hD : D - c' * 256 = Nt.lb xs zs.length - Nt.lb ys zs.length - c) (h : Nb.val zs - c * Nb.pw zs.length = Nb.vt xs zs.length - Nb.vt ys zs.length) :
    Nb.val (zs ++ [D]) - c' * Nb.pw (zs.length + 1) = Nb.vt xs (zs.length + 1) - Nb.vt ys (zs.length + 1) := by
  rw [Nb.val_snoc, Nb.pw_succ, Nb.vt_succ, Nb.vt_succ]
  have e2 : (D - c' * 256) * Nb.pw zs.length = (Nt.lb xs zs.length - Nt.lb ys zs.length - c) * Nb.pw zs.length := by rw [hD]
  rw [Int.sub_mul, Int.sub_mul, Int.sub_mul, Int.mul_assoc] at e2
  omega

set_option maxHeartbeats 1000000 in
theorem rsub_no {w : World} {va vb : Value} {n m : Int} {ka kb : Nat} (ha : Arg w va n ka) (hb : Arg w vb m kb) (hka : ka ≤ 1099511627776) (hkb : kb ≤ 1099511627776) (hlt : n < m) :
    Calls Tryz.prog 109 #[va, vb] w fun e w' => e = .returned (.tuple #[.slice none 0 0, .bool false]) ∧ Below w.heap.size w w' := by
  have c := rcmp_any ha hb hka hkb
  rw [sgn_lt hlt] at c
  have C := hide c
  clear c
  go_enter Tryz.func109, Tryz.ntmps109
  go_wp2_with fail
  refine Calls.mono C.out ?_
  rintro e w2 ⟨rfl, hbel⟩
  go_wp2
  go_ret2
  exact ⟨rfl, hbel⟩

set_option maxHeartbeats 4000000 in
theorem rsub_yes {w : World} {va vb : Value} {n m : Int} {ka kb : Nat} (ha : Arg w va n ka) (hb : Arg w vb m kb) (hka : ka ≤ 1099511627776) (hkb : kb ≤ 1099511627776) (hge : m ≤ n) :
    Calls Tryz.prog 109 #[va, vb] w fun e w' => ∃ v, e = .returned (.tuple #[v, .bool true]) ∧ Num w.heap.size w' v (n - m) ka ∧ Below w.heap.size w w' := by
  have hs : 0 ≤ sgn n m := by unfold sgn; rw [if_neg (by omega)]; split <;> omega
  go_enter Tryz.func109, Tryz.ntmps109
  go_wp2_with fail
  refine (rcmp_any ha hb hka hkb).mono ?_
  rintro e w0 ⟨rfl, hb0⟩
  go_wp2_with fail
  refine (bytes_any (ha.below hb0) hka).mono ?_
  rintro e w1 ⟨v1, rfl, ⟨xs, ⟨ao, ca, rfl, hxl, hxm, hxc⟩, hx, rfl, hxk⟩, hb1⟩
  go_wp2_with fail
  refine (bytes_any ((hb.below hb0).below hb1) hkb).mono ?_
  rintro e w2 ⟨v2, rfl, ⟨ys, ⟨bo, cb, rfl, hyl, hym, hyc⟩, hy, rfl, hyk⟩, hb2⟩
  replace hxc := hxc.below hb2
  have hbb := below_trans (below_trans hb0 hb1) hb2
  have hll : ys.length ≤ xs.length := by
    by_cases h : xs.length < ys.length
    · have := Nb.canon_lt hx.1 hy h; omega
    · omega
  have Hge := hide hge
  clear ha hb hb0 hb1 hb2 hge hs
  have hymx : ys.length ≤ maxLen := by omega
  go_wp2
  go_loopw [8, 9, 10] (fun out sc si wr => ∃ (q : Int) (zs : List Int), si = .int .i64 zs.length ∧ sc = .int .i64 q ∧ 0 ≤ q ∧ q ≤ 1 ∧ zs.length ≤ xs.length ∧ Nb.Ok zs ∧ Nb.val zs - q * Nb.pw zs.length = Nb.vt xs zs.length - Nb.vt ys zs.length ∧
      wr.ownsRow w2.heap.size 3 1 out zs.length (zs.map (Value.int .i64)) ∧ Below w2.heap.size w2 wr) (fun _ _ si _ => xs.length - (intOf si).toNat)
  case atStart => exact ⟨0, [], rfl, rfl, by omega, by omega, by simp, Nb.ok_nil, by simp [Nb.val, Nb.vt], by simpa using World.ownsRow_nil w2 w2.heap.size 3 1, Below.refl _ _⟩
  case round =>
    obtain ⟨q, zs, rfl, rfl, hq0, hq1, hzl, hzo, heq, hown, hbr⟩ := hrel
    have Heq := hide heq
    clear heq
    have hcy := hyc.below hbr
    obtain ⟨k, hk⟩ : ∃ k, zs.length = k := ⟨_, rfl⟩
    obtain ⟨bx0, bx1⟩ := hx.1 k
    obtain ⟨by0, by1⟩ := hy.1 k
    have hsz := hbr.size
    have hst := fun D c' => bsub_step (xs := xs) (ys := ys) (zs := zs) (c := q) (D := D) (c' := c')
    rw [hk] at hown hzl hst ⊢
    have Hst := hide hst
    have Hk := hide hk
    clear hst hk
    have hkb' : k ≤ 8796093022209 := by omega
    by_cases h1 : k < xs.length
    · have hc1 : (k : Int) < (xs.length : Int) := by omega
      obtain ⟨b1, o1, rfl, _, hcc⟩ := (hxc.below hbr) (by omega)
      have g1 := hcc k h1
      clear hcc hxc
      have hown2 : wr.drew.ownsRow w2.heap.size 3 1 _ k (zs.map (Value.int .i64)) := hown
      by_cases hneg : Nt.lb xs k - Nt.lb ys k - q < 0
      · go_wp2
        go_region_with (go_at_call 157; refine (at_any bo cb ys k _ hymx (by exact hcy)).mono ?_; rintro e w3 ⟨rfl, rfl⟩)
        all_goals go_wp2_with (at_builtin; refine wpList_append_cells _ rfl _ _ 99 rfl w2.heap.size 3 .i64 8 Tryz.underlying99 Tryz.infoI64 _ k zs rfl (hown2.alloc _) (some ⟨wr.heap.size, 0, none⟩) 1 [Nt.lb xs k - Nt.lb ys k - q + 256] rfl (cells_one _ _ _ _) (by unfold maxLen; simp; omega) (by simp; omega) (by simp; omega) ?_)
        all_goals
          intro v' w4 hown' hgrow
          have hb4 : Below w2.heap.size w2 w4 := below_own ((hbr.drew).alloc hsz _) (by simp; omega) (hown2.alloc _) hgrow
          have Hown' := hide hown'
          clear hown' hgrow
          go_wp2
          go_roundw
        all_goals first
          | exact ⟨1, zs ++ [Nt.lb xs k - Nt.lb ys k - q + 256], by rw [List.length_append, List.length_singleton, Hk.out]; go_num, rfl, by omega, by omega, by rw [List.length_append, List.length_singleton, Hk.out]; omega, Nb.ok_snoc hzo (by omega), by
              rw [List.length_append, List.length_singleton, Hk.out]; exact Hst.out _ _ (by omega) (by have := Heq.out; rw [Hk.out] at this; exact this), by simpa [Hk.out] using Hown'.out, hb4⟩
          | (simp [intOf]; omega)
      · have hneg' : ¬ Nt.lb xs k - Nt.lb ys k - q < 0 := hneg
        go_wp2
        go_region_with (go_at_call 157; refine (at_any bo cb ys k _ hymx (by exact hcy)).mono ?_; rintro e w3 ⟨rfl, rfl⟩)
        all_goals go_wp2_with (at_builtin; refine wpList_append_cells _ rfl _ _ 99 rfl w2.heap.size 3 .i64 8 Tryz.underlying99 Tryz.infoI64 _ k zs rfl (hown2.alloc _) (some ⟨wr.heap.size, 0, none⟩) 1 [Nt.lb xs k - Nt.lb ys k - q] rfl (cells_one _ _ _ _) (by unfold maxLen; simp; omega) (by simp; omega) (by simp; omega) ?_)
        all_goals
          intro v' w4 hown' hgrow
          have hb4 : Below w2.heap.size w2 w4 := below_own ((hbr.drew).alloc hsz _) (by simp; omega) (hown2.alloc _) hgrow
          have Hown' := hide hown'
          clear hown' hgrow
          go_wp2
          go_roundw
        all_goals first
          | exact ⟨0, zs ++ [Nt.lb xs k - Nt.lb ys k - q], by rw [List.length_append, List.length_singleton, Hk.out]; go_num, rfl, by omega, by omega, by rw [List.length_append, List.length_singleton, Hk.out]; omega, Nb.ok_snoc hzo (by omega), by
              rw [List.length_append, List.length_singleton, Hk.out]; exact Hst.out _ _ (by omega) (by have := Heq.out; rw [Hk.out] at this; exact this), by simpa [Hk.out] using Hown'.out, hb4⟩
          | (simp [intOf]; omega)
    · have hc1 : ¬ (k : Int) < (xs.length : Int) := by omega
      have hke : k = xs.length := by omega
      have hfin : Nb.val zs = Nb.val xs - Nb.val ys := by
        have h := Heq.out
        rw [Hk.out, Nb.vt_out (xs := xs) (by omega), Nb.vt_out (xs := ys) (by omega)] at h
        have h2 := Hge.out
        have h3 := Nb.val_lt hzo
        rw [Hk.out] at h3
        have : q = 0 ∨ q = 1 := by omega
        rcases this with rfl | rfl
        · omega
        · omega
      have hrd : Reads .i64 wr _ zs := reads_of_owns hown
      have hla := limbs_any (ka := k) ⟨zs, hrd, hzo, rfl, by rw [Hk.out]; exact Nat.le_refl _⟩ (by omega)
      rw [hfin] at hla
      have Hla := hide hla
      clear hfin hrd hla hcy
      go_wp2_with fail
      refine Calls.mono Hla.out ?_
      rintro e w5 ⟨v, rfl, hv, hb5⟩
      go_wp2
      go_ret2
      exact ⟨v, rfl, (num_since hv (by have := hbb.size; have := hbr.size; omega)).mono (by omega), below_trans hbb (hbr.trans (hb5.mono hbr.size))⟩

theorem b_vt_set_add {zs : List Int} {i : Nat} (hi : i < zs.length) (h0 : Nt.lb zs i = 0) (q : Int) (n : Nat) (hn : i < n) : Nb.vt (zs.set i q) n = Nb.vt zs n + q * Nb.pw i := by
  induction n with
  | zero => omega
  | succ n ih =>
    rw [Nb.vt_succ, Nb.vt_succ]
    by_cases e : i = n
    · subst e; rw [Nb.vt_set (Nat.le_refl _), Nt.lb_set_eq hi, h0]; simp
    · rw [Nt.lb_set_ne e, ih (by omega)]; omega
theorem b_val_set_add {zs : List Int} {i : Nat} (hi : i < zs.length) (h0 : Nt.lb zs i = 0) (q : Int) : Nb.val (zs.set i q) = Nb.val zs + q * Nb.pw i := by
  unfold Nb.val
  rw [List.length_set]
  exact b_vt_set_add hi h0 q _ hi

theorem bsmall_step {xs zs : List Int} {m : Nat} {r d V : Int} (hm : m < zs.length) (h0 : Nt.lb zs m = 0) (h : V = Nb.vt xs (m + 1) + Nb.val zs * d + r * Nb.pw (m + 1)) :
    V = Nb.vt xs m + Nb.val (zs.set m ((r * 256 + Nt.lb xs m) / d)) * d + ((r * 256 + Nt.lb xs m) % d) * Nb.pw m := by
  rw [h, b_val_set_add hm h0, Nb.vt_succ, Nb.pw_succ]
  have e : (r * 256 + Nt.lb xs m) % d + d * ((r * 256 + Nt.lb xs m) / d) = r * 256 + Nt.lb xs m := Int.emod_add_mul_ediv _ _
  generalize (r * 256 + Nt.lb xs m) % d = s at *
  generalize (r * 256 + Nt.lb xs m) / d = q at *
  have e2 : (s + d * q) * Nb.pw m = (r * 256 + Nt.lb xs m) * Nb.pw m := by rw [e]
  rw [Int.add_mul, Int.add_mul] at e2
  rw [Int.add_mul, ← Int.mul_assoc r]
  have e3 : q * Nb.pw m * d = d * q * Nb.pw m := by rw [Int.mul_comm, ← Int.mul_assoc]
  rw [e3]
  omega

end Go.Proofs.YtejenbkhhcjeaaaGreatDoor

namespace Go.Proofs.YtejenbkhhcjeaaaGreatDoor
open Go.RowKit

theorem b_val_set {zs : List Int} {i : Nat} (hi : i < zs.length) (q : Int) : Nb.val (zs.set i q) = Nb.val zs + (q - Nt.lb zs i) * Nb.pw i := by
  have : ∀ n, i < n → Nb.vt (zs.set i q) n = Nb.vt zs n + (q - Nt.lb zs i) * Nb.pw i := by
    intro n
    induction n with
    | zero => intro h; omega
    | succ n ih =>
      intro h
      rw [Nb.vt_succ, Nb.vt_succ]
      by_cases e : i = n
      · subst e; rw [Nb.vt_set (Nat.le_refl _), Nt.lb_set_eq hi, Int.sub_mul]; omega
      · rw [Nt.lb_set_ne e, ih (by omega)]; omega
  unfold Nb.val
  rw [List.length_set]
  exact this _ hi

/-- a byte laid, the rest carried on -/
theorem lay_step {zs : List Int} {p : Nat} {c d : Int} (hp : p < zs.length) :
    Nb.val (zs.set p ((Nt.lb zs p + d + c) % 256)) + (Nt.lb zs p + d + c) / 256 * Nb.pw (p + 1) = Nb.val zs + c * Nb.pw p + d * Nb.pw p := by
  rw [b_val_set hp, Nb.pw_succ]
  have e := byte_step (V := Nb.val zs) (x := Nt.lb zs p + d + c) (P := Nb.pw p)
  rw [Int.sub_mul]
  rw [Int.add_mul, Int.add_mul] at e
  omega
theorem mul_lt {a b P Q : Int} (ha : 0 ≤ a ∧ a < P) (hb : 0 ≤ b ∧ b < Q) : a * b < P * Q := by
  have h1 : a * b ≤ a * Q := Int.mul_le_mul_of_nonneg_left (by omega) ha.1
  have h2 : (a + 1) * Q ≤ P * Q := Int.mul_le_mul_of_nonneg_right (by omega) (by omega)
  rw [Int.add_mul] at h2
  omega
theorem byte_prod {x y : Int} (hx : 0 ≤ x ∧ x < 256) (hy : 0 ≤ y ∧ y < 256) : 0 ≤ x * y ∧ x * y ≤ 65025 := by
  refine ⟨Int.mul_nonneg hx.1 hy.1, ?_⟩
  have h1 : x * y ≤ 255 * y := Int.mul_le_mul_of_nonneg_right (by omega) hy.1
  omega

theorem heap_drewN (w : World) (n : Nat) : (w.drewN n).heap = w.heap := by
  induction n with
  | zero => rfl
  | succ n ih => exact ih
theorem row_drewN {k : IntKind} {E : TypeId} {w : World} {n g : Nat} {zs : List Int} : Row k E (w.drewN n) g zs = Row k E w g zs := by
  unfold Row; rw [heap_drewN]
theorem below_drewN' {B : Nat} {a w : World} {n : Nat} (h : Below B a w) : Below B a (w.drewN n) := by
  induction n with
  | zero => exact h
  | succ n ih => exact ih.drew

set_option maxRecDepth 100000 in
set_option maxHeartbeats 4000000 in
theorem rmul_any {w : World} {va vb : Value} {n m : Int} {ka kb : Nat} (ha : Arg w va n ka) (hb : Arg w vb m kb) (hka : ka ≤ 549755813888) (hkb : kb ≤ 549755813888) :
    Calls Tryz.prog 121 #[va, vb] w fun e w' => ∃ v, e = .returned v ∧ Num w.heap.size w' v (n * m) (ka + kb + 1) ∧ Below w.heap.size w w' := by
  go_enter Tryz.func121, Tryz.ntmps121
  go_wp2_with fail
  refine (bytes_any ha (by omega)).mono ?_
  rintro e w1 ⟨v1, rfl, ⟨xs, ⟨ao, ca, rfl, hxl, hxm, hxc⟩, hx, rfl, hxk⟩, hb1⟩
  go_wp2_with fail
  refine (bytes_any (hb.below hb1) (by omega)).mono ?_
  rintro e w2 ⟨v2, rfl, ⟨ys, ⟨bo, cb, rfl, hyl, hym, hyc⟩, hy, rfl, hyk⟩, hb2⟩
  replace hxc := hxc.below hb2
  have hbb := below_trans hb1 hb2
  clear ha hb hb1 hb2
  go_wp2_with (at_make; refine wpList_make_row _ rfl _ _ 99 rfl 3 .i64 8 Tryz.underlying99 Tryz.infoI64 _ _ _ _ (xs.length + ys.length + 1) (xs.length + ys.length + 1) rfl rfl (by omega) (by omega) (Nat.le_refl _) (by omega) (by unfold maxLen; omega) ?_)
  intro w3 hr hbel hsz
  go_wp2
  go_loopw [8] (fun si wr => ∃ (i : Nat) (zs : List Int), i ≤ xs.length ∧ si = .int .i64 i ∧ zs.length = xs.length + ys.length + 1 ∧ Nb.Ok zs ∧ Nb.val zs = Nb.vt xs i * Nb.val ys ∧ Row .i64 3 wr w2.heap.size zs ∧ Below w2.heap.size w2 wr) (fun si _ => xs.length - (intOf si).toNat)
  case atStart => exact ⟨0, List.replicate (xs.length + ys.length + 1) 0, by omega, rfl, by simp, Nb.ok_replicate _, by
    have e : Nb.val (List.replicate (xs.length + ys.length + 1) 0) = 0 := by
      unfold Nb.val; rw [Nb.vt_cut (k := 0) (by omega) (fun i _ _ => Nt.lb_replicate _ _)]; rfl
    rw [e]; simp [Nb.vt], hr, hbel⟩
  case round =>
    obtain ⟨i, zs, hil, rfl, hzl, hzo, hzv, hrow, hbr⟩ := hrel
    have Hzl := hide hzl
    have Hzv := hide hzv
    clear hzl hzv hr hbel
    by_cases hlt : i < xs.length
    · obtain ⟨b1, o1, rfl, hb1, hc1⟩ := (hxc.below hbr) (by omega)
      have gx0 := hc1 i hlt
      obtain ⟨bx0, bx1⟩ := hx.1 i
      clear hc1
      have hlt' : (i : Int) < (xs.length : Int) := by omega
      go_wp2
      go_loopw [9, 10] (fun sc sk wq => ∃ (k : Nat) (c : Int) (us : List Int), k ≤ ys.length ∧ sk = .int .i64 k ∧ sc = .int .i64 c ∧ 0 ≤ c ∧ c < 256 ∧ us.length = xs.length + ys.length + 1 ∧ Nb.Ok us ∧ Nb.val us + c * Nb.pw (i + k) = Nb.vt xs i * Nb.val ys + Nt.lb xs i * Nb.vt ys k * Nb.pw i ∧
          Row .i64 3 wq w2.heap.size us ∧ Below w2.heap.size w2 wq) (fun _ sk _ => ys.length - (intOf sk).toNat)
      case atStart => exact ⟨0, 0, zs, by omega, rfl, rfl, by omega, by omega, Hzl.out, hzo, by rw [Hzv.out]; simp [Nb.vt], hrow, hbr⟩
      case round =>
        obtain ⟨k, c, us, hkl, rfl, rfl, hc0, hc1, hul, huo, huv, hrowu, hbu⟩ := hrel
        have Hul := hide hul
        have Huv := hide huv
        clear hul huv hrow gx0
        by_cases hk : k < ys.length
        · obtain ⟨b2, o2, rfl, hb2, hc2⟩ := (hyc.below hbu) (by omega)
          have gy := hc2 k hk
          obtain ⟨b1', o1', he, _, hc1'⟩ := (hxc.below hbu) (by omega)
          have gx := hc1' i hlt
          simp only [Option.some.injEq, Addr.mk.injEq, and_true] at he
          obtain ⟨rfl, rfl⟩ := he
          have gz := hrowu.cell (i := i + k) (by have := Hul.out; omega)
          have hfz := hrowu.frozen (i + k)
          obtain ⟨by0, by1⟩ := hy.1 k
          obtain ⟨bz0, bz1⟩ := huo (i + k)
          obtain ⟨p0, p1⟩ := byte_prod ⟨bx0, bx1⟩ ⟨by0, by1⟩
          have hk' : (k : Int) < (ys.length : Int) := by omega
          have hik : (i : Int) + (k : Int) < (xs.length : Int) + (ys.length : Int) + 1 := by omega
          have Hst := hide (lay_step (zs := us) (p := i + k) (c := c) (d := Nt.lb xs i * Nt.lb ys k) (by have := Hul.out; omega))
          clear hc1' hc2
          go_wp2
          go_quiet (fail)
          go_wp2
          go_roundw
          case rel => exact ⟨k + 1, (Nt.lb us (i + k) + Nt.lb xs i * Nt.lb ys k + c) / 256, us.set (i + k) ((Nt.lb us (i + k) + Nt.lb xs i * Nt.lb ys k + c) % 256), by omega, by go_num, rfl, by omega, by omega, by rw [List.length_set, Hul.out], Nb.ok_set huo (by omega), by
            rw [← Nat.add_assoc, Hst.out, Huv.out, Nb.vt_succ, Nb.pw_add, Int.mul_add, Int.add_mul]
            have e : Nt.lb xs i * Nt.lb ys k * (Nb.pw i * Nb.pw k) = Nt.lb xs i * (Nt.lb ys k * Nb.pw k) * Nb.pw i := by
              rw [Int.mul_comm (Nb.pw i), Int.mul_assoc, Int.mul_assoc, Int.mul_assoc]
            omega, Row.set (by rw [row_drewN]; exact hrowu) _ _, Below.setCell (p := ⟨w2.heap.size, i + k, none⟩) (below_drewN' hbu) (Nat.le_refl _) _⟩
          case measure => simp [intOf]; omega
        · have hke : k = ys.length := by omega
          subst hke
          have hk' : ¬ (ys.length : Int) < (ys.length : Int) := by omega
          obtain ⟨T, hT⟩ : ∃ T, T = Nb.vt xs (i + 1) * Nb.val ys := ⟨_, rfl⟩
          have hT2 : Nb.val us + c * Nb.pw (i + ys.length) = T := by
            rw [hT, Huv.out, Nb.vt_succ, Int.add_mul, Int.mul_right_comm]; rfl
          have hTb : T < Nb.pw (xs.length + ys.length) := by
            rw [hT, Nb.pw_add]
            have h1 := Nb.vt_bounds hx.1 (i + 1)
            have h2 := Nb.pw_mono (m := i + 1) (n := xs.length) (by omega)
            exact mul_lt ⟨h1.1, by omega⟩ ⟨Nb.val_nonneg hy.1, Nb.val_lt hy.1⟩
          have HT := hide hT
          have HT2 := hide hT2
          have HTb := hide hTb
          clear hT hT2 hTb Huv
          go_wp2
          go_loopw [9, 12] (fun sc sk wq => ∃ (k : Nat) (c : Int) (us : List Int), k ≤ xs.length + ys.length ∧ sk = .int .i64 k ∧ sc = .int .i64 c ∧ 0 ≤ c ∧ c < 256 ∧ us.length = xs.length + ys.length + 1 ∧ Nb.Ok us ∧ Nb.val us + c * Nb.pw k = T ∧
              Row .i64 3 wq w2.heap.size us ∧ Below w2.heap.size w2 wq) (fun _ sk _ => xs.length + ys.length - (intOf sk).toNat)
          case atStart => exact ⟨i + ys.length, c, us, by omega, by go_num, rfl, hc0, hc1, Hul.out, huo, HT2.out, hrowu, hbu⟩
          case round =>
            clear hrowu hc0 hc1 HT2 hbu
            obtain ⟨k, c, us, hkl, rfl, rfl, hc0, hc1, hul, huo, huv, hrowu, hbu⟩ := hrel
            have Hul := hide hul
            have Huv := hide huv
            clear hul huv
            by_cases hp : 0 < c
            · have hkk : k < xs.length + ys.length := by
                by_cases h : k < xs.length + ys.length
                · exact h
                · have h1 := Nb.pw_mono (m := xs.length + ys.length) (n := k) (by omega)
                  have h2 := Nb.val_nonneg huo
                  have h3 : 1 * Nb.pw k ≤ c * Nb.pw k := Int.mul_le_mul_of_nonneg_right (by omega) (by have := Nb.pw_pos k; omega)
                  have h4 := Huv.out
                  have h5 := HTb.out
                  omega
              have gz := hrowu.cell (i := k) (by have := Hul.out; omega)
              have hfz := hrowu.frozen k
              obtain ⟨bz0, bz1⟩ := huo k
              have Hst := hide (lay_step (zs := us) (p := k) (c := c) (d := 0) (by have := Hul.out; omega))
              go_wp2
              go_roundw
              case rel => exact ⟨k + 1, (Nt.lb us k + c) / 256, us.set k ((Nt.lb us k + c) % 256), by omega, by go_num, rfl, by omega, by omega, by rw [List.length_set, Hul.out], Nb.ok_set huo (by omega), by
                have h := Hst.out
                rw [Int.add_zero, Int.zero_mul, Int.add_zero] at h
                rw [h]; exact Huv.out, hrowu.set _ _, hbu.setCell (p := ⟨w2.heap.size, k, none⟩) (Nat.le_refl _) _⟩
              case measure => simp [intOf]; omega
            · have hc00 : c = 0 := by omega
              subst hc00
              go_wp2
              go_roundw
              case rel => exact ⟨i + 1, us, by omega, by go_num, Hul.out, huo, by
                have h := Huv.out
                rw [Int.zero_mul, Int.add_zero] at h
                rw [h]; exact HT.out, hrowu, hbu⟩
              case measure => simp [intOf]; omega
    · have hke : i = xs.length := by omega
      subst hke
      have hk' : ¬ (xs.length : Int) < (xs.length : Int) := by omega
      have hz2 : zs.length = xs.length + ys.length + 1 := Hzl.out
      have hfin : Nb.val zs = Nb.val xs * Nb.val ys := Hzv.out
      have hrd : Reads .i64 wr (.slice (some ⟨w2.heap.size, 0, none⟩) (xs.length + ys.length + 1) (xs.length + ys.length + 1)) zs := ⟨_, xs.length + ys.length + 1, by rw [hz2], by omega, by unfold maxLen; omega, fun _ => ⟨w2.heap.size, 0, rfl, hrow.lt, fun i hi => by rw [Nat.zero_add]; exact hrow.cell hi⟩⟩
      have hla := limbs_any (ka := xs.length + ys.length + 1) ⟨zs, hrd, hzo, rfl, by omega⟩ (by omega)
      rw [hfin] at hla
      have Hla := hide hla
      clear hfin hrd hla hz2
      go_wp2_with fail
      refine Calls.mono Hla.out ?_
      rintro e w5 ⟨v, rfl, hv, hb5⟩
      go_wp2
      go_ret
      exact ⟨v, rfl, (num_since hv (by have := hbb.size; have := hbr.size; omega)).mono (by omega), below_trans hbb (hbr.trans (hb5.mono hbr.size))⟩

end Go.Proofs.YtejenbkhhcjeaaaGreatDoor
