/- RE4 -/
import Derived.Test.YtinfkoiifemjmaaGreatDoorS03
import Derived.Deep.RegionWith
import Derived.Deep.QuietTactic
import Derived.BigQuiet
import Derived.Test.YtinfkoiifemjmaaGreatDoorS04
import Derived.Deep.RegionHeld3
import Derived.Deep.AppendLies
namespace Go.Proofs.YtinfkoiifemjmaaGreatDoor
open Go.RowKit

/-- one round of a sum, bytes -/
theorem badd_step {xs ys zs : List Int} {c : Int} (h : Nb.val zs + c * Nb.pw zs.length = Nb.vt xs zs.length + Nb.vt ys zs.length) :
    Nb.val (zs ++ [(Nt.lb xs zs.length + Nt.lb ys zs.length + c) % 256]) + (Nt.lb xs zs.length + Nt.lb ys zs.length + c) / 256 * Nb.pw (zs.length + 1) = Nb.vt xs (zs.length + 1) + Nb.vt ys (zs.length + 1) := by
  rw [Nb.val_snoc, Nb.pw_succ, byte_step, Nb.vt_succ, Nb.vt_succ, Int.add_mul, Int.add_mul]
  omega

set_option maxHeartbeats 4000000 in
theorem radd_any {w : World} {va vb : Value} {n m : Int} {ka kb : Nat} (ha : Arg w va n ka) (hb : Arg w vb m kb) (hka : ka ≤ 1099511627776) (hkb : kb ≤ 1099511627776) :
    Calls Tryz.prog 126 #[va, vb] w fun e w' => ∃ v, e = .returned v ∧ Num w.heap.size w' v (n + m) (ka + kb + 1) ∧ Below w.heap.size w w' := by
  go_enter Tryz.func126, Tryz.ntmps126
  go_wp2_with fail
  refine (bytes_any ha hka).mono ?_
  rintro e w1 ⟨v1, rfl, ⟨xs, ⟨ao, ca, rfl, hxl, hxm, hxc⟩, hx, rfl, hxk⟩, hb1⟩
  go_wp2_with fail
  refine (bytes_any (hb.below hb1) hkb).mono ?_
  rintro e w2 ⟨v2, rfl, ⟨ys, ⟨bo, cb, rfl, hyl, hym, hyc⟩, hy, rfl, hyk⟩, hb2⟩
  replace hxc := hxc.below hb2
  have hbb := below_trans hb1 hb2
  clear ha hb hb1 hb2
  have hxmx : xs.length ≤ maxLen := by omega
  have hymx : ys.length ≤ maxLen := by omega
  go_wp2
  go_loopw [7, 8, 9] (fun out sc si wr => ∃ (q : Int) (zs : List Int), si = .int .i64 zs.length ∧ sc = .int .i64 q ∧ 0 ≤ q ∧ q ≤ 1 ∧ zs.length ≤ max xs.length ys.length + 1 ∧ (max xs.length ys.length < zs.length → q = 0) ∧ Nb.Ok zs ∧ Nb.val zs + q * Nb.pw zs.length = Nb.vt xs zs.length + Nb.vt ys zs.length ∧
      wr.ownsRow w2.heap.size 3 1 out zs.length (zs.map (Value.int .i64)) ∧ Below w2.heap.size w2 wr) (fun _ _ si _ => max xs.length ys.length + 1 - (intOf si).toNat)
  case atStart => exact ⟨0, [], rfl, rfl, by omega, by omega, by simp, fun h => by simp at h, Nb.ok_nil, by simp [Nb.val, Nb.vt], by simpa using World.ownsRow_nil w2 w2.heap.size 3 1, Below.refl _ _⟩
  case round =>
    obtain ⟨q, zs, rfl, rfl, hq0, hq1, hzl, hqz, hzo, heq, hown, hbr⟩ := hrel
    have Heq := hide heq
    have Hqz := hide hqz
    clear heq hqz
    have hcx := hxc.below hbr
    have hcy := hyc.below hbr
    obtain ⟨k, hk⟩ : ∃ k, zs.length = k := ⟨_, rfl⟩
    have bx := hx.1 k
    have by' := hy.1 k
    obtain ⟨bx0, bx1⟩ := bx
    obtain ⟨by0, by1⟩ := by'
    have hsz := hbr.size
    have hst := badd_step Heq.out
    rw [hk] at hown hzl hst ⊢
    have Hst := hide hst
    have Hk := hide hk
    clear hst hk
    have hkb' : k ≤ 8796093022209 := by omega
    by_cases h1 : k < xs.length
    · have hc1 : (k : Int) < (xs.length : Int) := by omega
      go_wp2_with fail
      refine (at_any ao ca xs k _ hxmx hcx).mono ?_
      rintro e w3 ⟨rfl, rfl⟩
      go_wp2_with fail
      refine (at_any bo cb ys k _ hymx hcy).mono ?_
      rintro e w3 ⟨rfl, rfl⟩
      go_wp2_with (at_builtin; refine wpList_append_cells _ rfl _ _ 99 rfl w2.heap.size 3 .i64 8 Tryz.underlying99 Tryz.infoI64 _ k zs rfl (hown.alloc _) _ 1 [(Nt.lb xs k + Nt.lb ys k + q) % 256] rfl (cells_one _ _ _ _) (by unfold maxLen; simp; omega) (by simp; omega) (by simp; omega) ?_)
      intro v' w4 hown' hgrow
      have hb4 : Below w2.heap.size w2 w4 := below_own (hbr.alloc hsz _) (by simp; omega) (hown.alloc _) hgrow
      have Hown' := hide hown'
      clear hown' hgrow hown hcx hcy
      go_wp2
      go_roundw
      case rel => exact ⟨(Nt.lb xs k + Nt.lb ys k + q) / 256, zs ++ [(Nt.lb xs k + Nt.lb ys k + q) % 256], by rw [List.length_append, List.length_singleton, Hk.out]; go_num, rfl, by omega, by omega, by rw [List.length_append, List.length_singleton, Hk.out]; omega, fun h => by
        rw [List.length_append, List.length_singleton, Hk.out] at h
        have e1 : Nt.lb xs k = 0 := Nt.lb_out (by omega)
        have e2 : Nt.lb ys k = 0 := Nt.lb_out (by omega)
        rw [e1, e2]; omega, Nb.ok_snoc hzo (by omega), by rw [List.length_append, List.length_singleton, Hk.out]; exact Hst.out, by simpa [Hk.out] using Hown'.out, hb4⟩
      case measure => simp [intOf]; omega
    by_cases h2 : k < ys.length
    · have hc1 : ¬ (k : Int) < (xs.length : Int) := by omega
      have hc2 : (k : Int) < (ys.length : Int) := by omega
      go_wp2_with fail
      refine (at_any ao ca xs k _ hxmx hcx).mono ?_
      rintro e w3 ⟨rfl, rfl⟩
      go_wp2_with fail
      refine (at_any bo cb ys k _ hymx hcy).mono ?_
      rintro e w3 ⟨rfl, rfl⟩
      go_wp2_with (at_builtin; refine wpList_append_cells _ rfl _ _ 99 rfl w2.heap.size 3 .i64 8 Tryz.underlying99 Tryz.infoI64 _ k zs rfl (hown.alloc _) _ 1 [(Nt.lb xs k + Nt.lb ys k + q) % 256] rfl (cells_one _ _ _ _) (by unfold maxLen; simp; omega) (by simp; omega) (by simp; omega) ?_)
      intro v' w4 hown' hgrow
      have hb4 : Below w2.heap.size w2 w4 := below_own (hbr.alloc hsz _) (by simp; omega) (hown.alloc _) hgrow
      have Hown' := hide hown'
      clear hown' hgrow hown hcx hcy
      go_wp2
      go_roundw
      case rel => exact ⟨(Nt.lb xs k + Nt.lb ys k + q) / 256, zs ++ [(Nt.lb xs k + Nt.lb ys k + q) % 256], by rw [List.length_append, List.length_singleton, Hk.out]; go_num, rfl, by omega, by omega, by rw [List.length_append, List.length_singleton, Hk.out]; omega, fun h => by
        rw [List.length_append, List.length_singleton, Hk.out] at h
        have e1 : Nt.lb xs k = 0 := Nt.lb_out (by omega)
        have e2 : Nt.lb ys k = 0 := Nt.lb_out (by omega)
        rw [e1, e2]; omega, Nb.ok_snoc hzo (by omega), by rw [List.length_append, List.length_singleton, Hk.out]; exact Hst.out, by simpa [Hk.out] using Hown'.out, hb4⟩
      case measure => simp [intOf]; omega
    by_cases h3 : 0 < q
    · have hc1 : ¬ (k : Int) < (xs.length : Int) := by omega
      have hc2 : ¬ (k : Int) < (ys.length : Int) := by omega
      have hkm : k ≤ max xs.length ys.length := by
        by_cases h : max xs.length ys.length < k
        · have := Hqz.out (by rw [Hk.out]; exact h); omega
        · omega
      go_wp2_with fail
      refine (at_any ao ca xs k _ hxmx hcx).mono ?_
      rintro e w3 ⟨rfl, rfl⟩
      go_wp2_with fail
      refine (at_any bo cb ys k _ hymx hcy).mono ?_
      rintro e w3 ⟨rfl, rfl⟩
      go_wp2_with (at_builtin; refine wpList_append_cells _ rfl _ _ 99 rfl w2.heap.size 3 .i64 8 Tryz.underlying99 Tryz.infoI64 _ k zs rfl (hown.alloc _) _ 1 [(Nt.lb xs k + Nt.lb ys k + q) % 256] rfl (cells_one _ _ _ _) (by unfold maxLen; simp; omega) (by simp; omega) (by simp; omega) ?_)
      intro v' w4 hown' hgrow
      have hb4 : Below w2.heap.size w2 w4 := below_own (hbr.alloc hsz _) (by simp; omega) (hown.alloc _) hgrow
      have Hown' := hide hown'
      clear hown' hgrow hown hcx hcy
      go_wp2
      go_roundw
      case rel => exact ⟨(Nt.lb xs k + Nt.lb ys k + q) / 256, zs ++ [(Nt.lb xs k + Nt.lb ys k + q) % 256], by rw [List.length_append, List.length_singleton, Hk.out]; go_num, rfl, by omega, by omega, by rw [List.length_append, List.length_singleton, Hk.out]; omega, fun h => by
        rw [List.length_append, List.length_singleton, Hk.out] at h
        have e1 : Nt.lb xs k = 0 := Nt.lb_out (by omega)
        have e2 : Nt.lb ys k = 0 := Nt.lb_out (by omega)
        rw [e1, e2]; omega, Nb.ok_snoc hzo (by omega), by rw [List.length_append, List.length_singleton, Hk.out]; exact Hst.out, by simpa [Hk.out] using Hown'.out, hb4⟩
      case measure => simp [intOf]; omega
    · have hc1 : ¬ (k : Int) < (xs.length : Int) := by omega
      have hc2 : ¬ (k : Int) < (ys.length : Int) := by omega
      have hc3 : ¬ 0 < q := by omega
      have hq00 : q = 0 := by omega
      have hfin : Nb.val zs = Nb.val xs + Nb.val ys := by
        have h := Heq.out
        rw [Hk.out, hq00, Int.zero_mul, Int.add_zero, Nb.vt_out (xs := xs) (by omega), Nb.vt_out (xs := ys) (by omega)] at h
        exact h
      have hrd : Reads .i64 wr _ zs := reads_of_owns hown
      have hla := limbs_any (ka := k) ⟨zs, hrd, hzo, rfl, by rw [Hk.out]; exact Nat.le_refl _⟩ (by omega)
      rw [hfin] at hla
      have Hla := hide hla
      clear hfin hrd hla hq00 hcx hcy
      go_wp2_with fail
      refine Calls.mono Hla.out ?_
      rintro e w5 ⟨v, rfl, hv, hb5⟩
      go_wp2
      go_ret
      exact ⟨v, rfl, (num_since hv (by have := hbb.size; have := hbr.size; omega)).mono (by omega), below_trans hbb (hbr.trans (hb5.mono hbr.size))⟩

/-- one round of a difference, bytes -/
theorem bsub_step {xs ys zs : List Int} {c D c' : Int} (hD : D - c' * 256 = Nt.lb xs zs.length - Nt.lb ys zs.length - c) (h : Nb.val zs - c * Nb.pw zs.length = Nb.vt xs zs.length - Nb.vt ys zs.length) :
    Nb.val (zs ++ [D]) - c' * Nb.pw (zs.length + 1) = Nb.vt xs (zs.length + 1) - Nb.vt ys (zs.length + 1) := by
  rw [Nb.val_snoc, Nb.pw_succ, Nb.vt_succ, Nb.vt_succ]
  have e2 : (D - c' * 256) * Nb.pw zs.length = (Nt.lb xs zs.length - Nt.lb ys zs.length - c) * Nb.pw zs.length := by rw [hD]
  rw [Int.sub_mul, Int.sub_mul, Int.sub_mul, Int.mul_assoc] at e2
  omega

set_option maxHeartbeats 4000000 in
theorem rsub_yes {w : World} {va vb : Value} {n m : Int} {ka kb : Nat} (ha : Arg w va n ka) (hb : Arg w vb m kb) (hka : ka ≤ 1099511627776) (hkb : kb ≤ 1099511627776) (hge : m ≤ n) :
    Calls Tryz.prog 180 #[va, vb] w fun e w' => ∃ v, e = .returned (.tuple #[v, .bool true]) ∧ Num w.heap.size w' v (n - m) ka ∧ Below w.heap.size w w' := by
  have hs : 0 ≤ sgn n m := by unfold sgn; rw [if_neg (by omega)]; split <;> omega
  go_enter Tryz.func180, Tryz.ntmps180
  go_wp2_with fail
  refine (rcmp_any ha hb hka hkb).mono ?_
  rintro e w0 ⟨rfl, hb0⟩
  go_wp2_with fail
  refine (bytes_any (ha.below hb0) hka).mono ?_
  rintro e w1 ⟨v1, rfl, ⟨xs, ⟨ao, ca, rfl, hxl, hxm, hxc⟩, hx, rfl, hxk⟩, hb1⟩
  go_wp2_with fail
  refine (bytes_any ((hb.below hb0).below hb1) hkb).mono ?_
  rintro e w2 ⟨v2, rfl, ⟨ys, ⟨bo, cb, rfl, hyl, hym, hyc⟩, hy, rfl, hyk⟩, hb2⟩
  replace hxc := hxc.below hb2
  have hbb := below_trans (below_trans hb0 hb1) hb2
  have hll : ys.length ≤ xs.length := by
    by_cases h : xs.length < ys.length
    · have := Nb.canon_lt hx.1 hy h; omega
    · omega
  have Hge := hide hge
  clear ha hb hb0 hb1 hb2 hge hs
  have hymx : ys.length ≤ maxLen := by omega
  go_wp2
  go_loopw [8, 9, 10] (fun out sc si wr => ∃ (q : Int) (zs : List Int), si = .int .i64 zs.length ∧ sc = .int .i64 q ∧ 0 ≤ q ∧ q ≤ 1 ∧ zs.length ≤ xs.length ∧ Nb.Ok zs ∧ Nb.val zs - q * Nb.pw zs.length = Nb.vt xs zs.length - Nb.vt ys zs.length ∧
      wr.ownsRow w2.heap.size 3 1 out zs.length (zs.map (Value.int .i64)) ∧ Below w2.heap.size w2 wr) (fun _ _ si _ => xs.length - (intOf si).toNat)
  case atStart => exact ⟨0, [], rfl, rfl, by omega, by omega, by simp, Nb.ok_nil, by simp [Nb.val, Nb.vt], by simpa using World.ownsRow_nil w2 w2.heap.size 3 1, Below.refl _ _⟩
  case round =>
    obtain ⟨q, zs, rfl, rfl, hq0, hq1, hzl, hzo, heq, hown, hbr⟩ := hrel
    have Heq := hide heq
    clear heq
    have hcy := hyc.below hbr
    obtain ⟨k, hk⟩ : ∃ k, zs.length = k := ⟨_, rfl⟩
    obtain ⟨bx0, bx1⟩ := hx.1 k
    obtain ⟨by0, by1⟩ := hy.1 k
    have hsz := hbr.size
    have hst := fun D c' => bsub_step (xs := xs) (ys := ys) (zs := zs) (c := q) (D := D) (c' := c')
    rw [hk] at hown hzl hst ⊢
    have Hst := hide hst
    have Hk := hide hk
    clear hst hk
    have hkb' : k ≤ 8796093022209 := by omega
    by_cases h1 : k < xs.length
    · have hc1 : (k : Int) < (xs.length : Int) := by omega
      obtain ⟨b1, o1, rfl, _, hcc⟩ := (hxc.below hbr) (by omega)
      have g1 := hcc k h1
      clear hcc hxc
      have hown2 : wr.drew.ownsRow w2.heap.size 3 1 _ k (zs.map (Value.int .i64)) := hown
      by_cases hneg : Nt.lb xs k - Nt.lb ys k - q < 0
      · go_wp2
        go_region_with (go_at_call 159; refine (at_any bo cb ys k _ hymx (by exact hcy)).mono ?_; rintro e w3 ⟨rfl, rfl⟩)
        all_goals go_wp2_with (at_builtin; refine wpList_append_cells _ rfl _ _ 99 rfl w2.heap.size 3 .i64 8 Tryz.underlying99 Tryz.infoI64 _ k zs rfl (hown2.alloc _) (some ⟨wr.heap.size, 0, none⟩) 1 [Nt.lb xs k - Nt.lb ys k - q + 256] rfl (cells_one _ _ _ _) (by unfold maxLen; simp; omega) (by simp; omega) (by simp; omega) ?_)
        all_goals
          intro v' w4 hown' hgrow
          have hb4 : Below w2.heap.size w2 w4 := below_own ((hbr.drew).alloc hsz _) (by simp; omega) (hown2.alloc _) hgrow
          have Hown' := hide hown'
          clear hown' hgrow
          go_wp2
          go_roundw
        all_goals first
          | exact ⟨1, zs ++ [Nt.lb xs k - Nt.lb ys k - q + 256], by rw [List.length_append, List.length_singleton, Hk.out]; go_num, rfl, by omega, by omega, by rw [List.length_append, List.length_singleton, Hk.out]; omega, Nb.ok_snoc hzo (by omega), by
              rw [List.length_append, List.length_singleton, Hk.out]; exact Hst.out _ _ (by omega) (by have := Heq.out; rw [Hk.out] at this; exact this), by simpa [Hk.out] using Hown'.out, hb4⟩
          | (simp [intOf]; omega)
      · have hneg' : ¬ Nt.lb xs k - Nt.lb ys k - q < 0 := hneg
        go_wp2
        go_region_with (go_at_call 159; refine (at_any bo cb ys k _ hymx (by exact hcy)).mono ?_; rintro e w3 ⟨rfl, rfl⟩)
        all_goals go_wp2_with (at_builtin; refine wpList_append_cells _ rfl _ _ 99 rfl w2.heap.size 3 .i64 8 Tryz.underlying99 Tryz.infoI64 _ k zs rfl (hown2.alloc _) (some ⟨wr.heap.size, 0, none⟩) 1 [Nt.lb xs k - Nt.lb ys k - q] rfl (cells_one _ _ _ _) (by unfold maxLen; simp; omega) (by simp; omega) (by simp; omega) ?_)
        all_goals
          intro v' w4 hown' hgrow
          have hb4 : Below w2.heap.size w2 w4 := below_own ((hbr.drew).alloc hsz _) (by simp; omega) (hown2.alloc _) hgrow
          have Hown' := hide hown'
          clear hown' hgrow
          go_wp2
          go_roundw
        all_goals first
          | exact ⟨0, zs ++ [Nt.lb xs k - Nt.lb ys k - q], by rw [List.length_append, List.length_singleton, Hk.out]; go_num, rfl, by omega, by omega, by rw [List.length_append, List.length_singleton, Hk.out]; omega, Nb.ok_snoc hzo (by omega), by
              rw [List.length_append, List.length_singleton, Hk.out]; exact Hst.out _ _ (by omega) (by have := Heq.out; rw [Hk.out] at this; exact this), by simpa [Hk.out] using Hown'.out, hb4⟩
          | (simp [intOf]; omega)
    · have hc1 : ¬ (k : Int) < (xs.length : Int) := by omega
      have hke : k = xs.length := by omega
      have hfin : Nb.val zs = Nb.val xs - Nb.val ys := by
        have h := Heq.out
        rw [Hk.out, Nb.vt_out (xs := xs) (by omega), Nb.vt_out (xs := ys) (by omega)] at h
        have h2 := Hge.out
        have h3 := Nb.val_lt hzo
        rw [Hk.out] at h3
        have : q = 0 ∨ q = 1 := by omega
        rcases this with rfl | rfl
        · omega
        · omega
      have hrd : Reads .i64 wr _ zs := reads_of_owns hown
      have hla := limbs_any (ka := k) ⟨zs, hrd, hzo, rfl, by rw [Hk.out]; exact Nat.le_refl _⟩ (by omega)
      rw [hfin] at hla
      have Hla := hide hla
      clear hfin hrd hla hcy
      go_wp2_with fail
      refine Calls.mono Hla.out ?_
      rintro e w5 ⟨v, rfl, hv, hb5⟩
      go_wp2
      go_ret2
      exact ⟨v, rfl, (num_since hv (by have := hbb.size; have := hbr.size; omega)).mono (by omega), below_trans hbb (hbr.trans (hb5.mono hbr.size))⟩

theorem b_vt_set_add {zs : List Int} {i : Nat} (hi : i < zs.length) (h0 : Nt.lb zs i = 0) (q : Int) (n : Nat) (hn : i < n) : Nb.vt (zs.set i q) n = Nb.vt zs n + q * Nb.pw i := by
  induction n with
  | zero => omega
  | succ n ih =>
    rw [Nb.vt_succ, Nb.vt_succ]
    by_cases e : i = n
    · subst e; rw [Nb.vt_set (Nat.le_refl _), Nt.lb_set_eq hi, h0]; simp
    · rw [Nt.lb_set_ne e, ih (by omega)]; omega
theorem b_val_set_add {zs : List Int} {i : Nat} (hi : i < zs.length) (h0 : Nt.lb zs i = 0) (q : Int) : Nb.val (zs.set i q) = Nb.val zs + q * Nb.pw i := by
  unfold Nb.val
  rw [List.length_set]
  exact b_vt_set_add hi h0 q _ hi

theorem bsmall_step {xs zs : List Int} {m : Nat} {r d V : Int} (hm : m < zs.length) (h0 : Nt.lb zs m = 0) (h : V = Nb.vt xs (m + 1) + Nb.val zs * d + r * Nb.pw (m + 1)) :
    V = Nb.vt xs m + Nb.val (zs.set m ((r * 256 + Nt.lb xs m) / d)) * d + ((r * 256 + Nt.lb xs m) % d) * Nb.pw m := by
  rw [h, b_val_set_add hm h0, Nb.vt_succ, Nb.pw_succ]
  have e : (r * 256 + Nt.lb xs m) % d + d * ((r * 256 + Nt.lb xs m) / d) = r * 256 + Nt.lb xs m := Int.emod_add_mul_ediv _ _
  generalize (r * 256 + Nt.lb xs m) % d = s at *
  generalize (r * 256 + Nt.lb xs m) / d = q at *
  have e2 : (s + d * q) * Nb.pw m = (r * 256 + Nt.lb xs m) * Nb.pw m := by rw [e]
  rw [Int.add_mul, Int.add_mul] at e2
  rw [Int.add_mul, ← Int.mul_assoc r]
  have e3 : q * Nb.pw m * d = d * q * Nb.pw m := by rw [Int.mul_comm, ← Int.mul_assoc]
  rw [e3]
  omega

set_option maxHeartbeats 2000000 in
theorem rsmall_yes {w : World} {va : Value} {n d : Int} {ka : Nat} (ha : Arg w va n ka) (hka : ka ≤ 1099511627776) (hd0 : 0 < d) (hd1 : d < 4294967296) :
    Calls Tryz.prog 53 #[va, .int .u32 d] w fun e w' => ∃ v, e = .returned (.tuple #[v, .int .u32 (n % d), .bool true]) ∧ Num w.heap.size w' v (n / d) ka ∧ Below w.heap.size w w' := by
  have hdz : (d == 0) = false := by simp; omega
  go_enter Tryz.func53, Tryz.ntmps53
  go_wp2_with fail
  refine (bytes_any ha hka).mono ?_
  rintro e w1 ⟨v1, rfl, ⟨xs, ⟨ao, ca, rfl, hxl, hxm, hxc⟩, hx, rfl, hxk⟩, hb1⟩
  clear ha
  go_wp2_with (at_make; refine wpList_make_row _ rfl _ _ 99 rfl 3 .i64 8 Tryz.underlying99 Tryz.infoI64 _ _ _ _ xs.length xs.length rfl rfl (by omega) (by omega) (Nat.le_refl _) (by omega) (by unfold maxLen; omega) ?_)
  intro w2 hr hbel hsz
  go_wp2
  go_loopw [9, 10] (fun sl si wr => ∃ (m : Nat) (r : Int) (zs : List Int), m ≤ xs.length ∧ si = .int .i64 ((m : Int) - 1) ∧ sl = .int .i64 r ∧ 0 ≤ r ∧ r < d ∧ zs.length = xs.length ∧ Nb.Ok zs ∧ (∀ j, j < m → Nt.lb zs j = 0) ∧ Row .i64 3 wr w1.heap.size zs ∧ Below w1.heap.size w1 wr ∧
      Nb.val xs = Nb.vt xs m + Nb.val zs * d + r * Nb.pw m) (fun _ si _ => (intOf si + 1).toNat)
  case atStart => exact ⟨xs.length, 0, List.replicate xs.length 0, Nat.le_refl _, rfl, rfl, by omega, by omega, by simp, Nb.ok_replicate _, fun j _ => Nt.lb_replicate _ _, hr, hbel, by
    have e : Nb.val (List.replicate xs.length 0) = 0 := by
      unfold Nb.val; rw [Nb.vt_cut (k := 0) (by omega) (fun i _ _ => Nt.lb_replicate _ _)]; rfl
    rw [e]; simp [Nb.val]⟩
  case round =>
    obtain ⟨m, r, zs, hml, rfl, rfl, hr0, hr1, hzl, hzo, hz0, hrow, hbr, heq⟩ := hrel
    have Heq := hide heq
    have Hzl := hide hzl
    have Hz := hide hz0
    clear heq hzl hz0 hr hbel
    by_cases hm0 : m = 0
    · subst hm0
      have hz2 : zs.length = xs.length := Hzl.out
      have hfin : Nb.val xs = Nb.val zs * d + r := by
        have := Heq.out
        simp only [Nb.vt, Nb.pw] at this
        omega
      have hq : Nb.val xs / d = Nb.val zs ∧ Nb.val xs % d = r := by
        rw [Int.ediv_emod_unique hd0]
        refine ⟨?_, hr0, hr1⟩
        rw [hfin, Int.mul_comm]; omega
      have hrd : Reads .i64 wr (.slice (some ⟨w1.heap.size, 0, none⟩) xs.length xs.length) zs := ⟨_, xs.length, by rw [hz2], by omega, by unfold maxLen; omega, fun _ => ⟨w1.heap.size, 0, rfl, hrow.lt, fun i hi => by rw [Nat.zero_add]; exact hrow.cell hi⟩⟩
      have hla := limbs_any (ka := xs.length) ⟨zs, hrd, hzo, rfl, by omega⟩ (by omega)
      have Hla := hide hla
      have Hq := hide hq
      clear hz2 hfin hq hrd hla
      go_wp2_with fail
      refine Calls.mono Hla.out ?_
      rintro e w5 ⟨v, rfl, hv, hb5⟩
      go_wp2
      go_ret3
      refine ⟨v, ?_, ?_, below_trans hb1 (hbr.trans (hb5.mono hbr.size))⟩
      · rw [Hq.out.2]
        rfl
      · rw [Hq.out.1]
        exact (num_since hv (by have := hb1.size; have := hbr.size; omega)).mono (by omega)
    · obtain ⟨p, rfl⟩ : ∃ p, m = p + 1 := ⟨m - 1, by omega⟩
      obtain ⟨b1, o1, rfl, hbb, hc1⟩ := (hxc.below hbr) (by omega)
      have hpl : p < xs.length := by omega
      have g1 := hc1 p hpl
      have g2 := hrow.cell (i := p) (by have := Hzl.out; omega)
      have hfz := hrow.frozen p
      obtain ⟨bx0, bx1⟩ := hx.1 p
      have q0 : 0 ≤ (r * 256 + Nt.lb xs p) / d := Int.ediv_nonneg (by omega) (by omega)
      have q1 : (r * 256 + Nt.lb xs p) / d < 256 := Int.ediv_lt_of_lt_mul (by omega) (by omega)
      have r0 : 0 ≤ (r * 256 + Nt.lb xs p) % d := Int.emod_nonneg _ (by omega)
      have r1 : (r * 256 + Nt.lb xs p) % d < d := Int.emod_lt_of_pos _ (by omega)
      have Hst := hide (bsmall_step (xs := xs) (zs := zs) (m := p) (r := r) (d := d) (V := Nb.val xs) (by have := Hzl.out; omega) (Hz.out _ (by omega)) Heq.out)
      clear hc1 hxc
      go_wp2
      go_roundw
      case rel => exact ⟨p, (r * 256 + Nt.lb xs p) % d, zs.set p ((r * 256 + Nt.lb xs p) / d), by omega, rfl, rfl, r0, r1, by have := Hzl.out; simp [this], Nb.ok_set hzo ⟨q0, q1⟩, fun j hj => by
        rw [Nt.lb_set_ne (by omega)]; exact Hz.out j (by omega), hrow.set _ _, hbr.setCell (p := ⟨w1.heap.size, p, none⟩) (Nat.le_refl _) _, Hst.out⟩
      case measure => simp [intOf]

end Go.Proofs.YtinfkoiifemjmaaGreatDoor

namespace Go.Proofs.YtinfkoiifemjmaaGreatDoor
open Go.RowKit

theorem b_val_set {zs : List Int} {i : Nat} (hi : i < zs.length) (q : Int) : Nb.val (zs.set i q) = Nb.val zs + (q - Nt.lb zs i) * Nb.pw i := by
  have : ∀ n, i < n → Nb.vt (zs.set i q) n = Nb.vt zs n + (q - Nt.lb zs i) * Nb.pw i := by
    intro n
    induction n with
    | zero => intro h; omega
    | succ n ih =>
      intro h
      rw [Nb.vt_succ, Nb.vt_succ]
      by_cases e : i = n
      · subst e; rw [Nb.vt_set (Nat.le_refl _), Nt.lb_set_eq hi, Int.sub_mul]; omega
      · rw [Nt.lb_set_ne e, ih (by omega)]; omega
  unfold Nb.val
  rw [List.length_set]
  exact this _ hi

/-- a byte laid, the rest carried on -/
theorem lay_step {zs : List Int} {p : Nat} {c d : Int} (hp : p < zs.length) :
    Nb.val (zs.set p ((Nt.lb zs p + d + c) % 256)) + (Nt.lb zs p + d + c) / 256 * Nb.pw (p + 1) = Nb.val zs + c * Nb.pw p + d * Nb.pw p := by
  rw [b_val_set hp, Nb.pw_succ]
  have e := byte_step (V := Nb.val zs) (x := Nt.lb zs p + d + c) (P := Nb.pw p)
  rw [Int.sub_mul]
  rw [Int.add_mul, Int.add_mul] at e
  omega
theorem mul_lt {a b P Q : Int} (ha : 0 ≤ a ∧ a < P) (hb : 0 ≤ b ∧ b < Q) : a * b < P * Q := by
  have h1 : a * b ≤ a * Q := Int.mul_le_mul_of_nonneg_left (by omega) ha.1
  have h2 : (a + 1) * Q ≤ P * Q := Int.mul_le_mul_of_nonneg_right (by omega) (by omega)
  rw [Int.add_mul] at h2
  omega
theorem byte_prod {x y : Int} (hx : 0 ≤ x ∧ x < 256) (hy : 0 ≤ y ∧ y < 256) : 0 ≤ x * y ∧ x * y ≤ 65025 := by
  refine ⟨Int.mul_nonneg hx.1 hy.1, ?_⟩
  have h1 : x * y ≤ 255 * y := Int.mul_le_mul_of_nonneg_right (by omega) hy.1
  omega

theorem heap_drewN (w : World) (n : Nat) : (w.drewN n).heap = w.heap := by
  induction n with
  | zero => rfl
  | succ n ih => exact ih
theorem row_drewN {k : IntKind} {E : TypeId} {w : World} {n g : Nat} {zs : List Int} : Row k E (w.drewN n) g zs = Row k E w g zs := by
  unfold Row; rw [heap_drewN]
theorem below_drewN' {B : Nat} {a w : World} {n : Nat} (h : Below B a w) : Below B a (w.drewN n) := by
  induction n with
  | zero => exact h
  | succ n ih => exact ih.drew

set_option maxRecDepth 100000 in
set_option maxHeartbeats 4000000 in
theorem rmul_any {w : World} {va vb : Value} {n m : Int} {ka kb : Nat} (ha : Arg w va n ka) (hb : Arg w vb m kb) (hka : ka ≤ 549755813888) (hkb : kb ≤ 549755813888) :
    Calls Tryz.prog 82 #[va, vb] w fun e w' => ∃ v, e = .returned v ∧ Num w.heap.size w' v (n * m) (ka + kb + 1) ∧ Below w.heap.size w w' := by
  go_enter Tryz.func82, Tryz.ntmps82
  go_wp2_with fail
  refine (bytes_any ha (by omega)).mono ?_
  rintro e w1 ⟨v1, rfl, ⟨xs, ⟨ao, ca, rfl, hxl, hxm, hxc⟩, hx, rfl, hxk⟩, hb1⟩
  go_wp2_with fail
  refine (bytes_any (hb.below hb1) (by omega)).mono ?_
  rintro e w2 ⟨v2, rfl, ⟨ys, ⟨bo, cb, rfl, hyl, hym, hyc⟩, hy, rfl, hyk⟩, hb2⟩
  replace hxc := hxc.below hb2
  have hbb := below_trans hb1 hb2
  clear ha hb hb1 hb2
  go_wp2_with (at_make; refine wpList_make_row _ rfl _ _ 99 rfl 3 .i64 8 Tryz.underlying99 Tryz.infoI64 _ _ _ _ (xs.length + ys.length + 1) (xs.length + ys.length + 1) rfl rfl (by omega) (by omega) (Nat.le_refl _) (by omega) (by unfold maxLen; omega) ?_)
  intro w3 hr hbel hsz
  go_wp2
  go_loopw [8] (fun si wr => ∃ (i : Nat) (zs : List Int), i ≤ xs.length ∧ si = .int .i64 i ∧ zs.length = xs.length + ys.length + 1 ∧ Nb.Ok zs ∧ Nb.val zs = Nb.vt xs i * Nb.val ys ∧ Row .i64 3 wr w2.heap.size zs ∧ Below w2.heap.size w2 wr) (fun si _ => xs.length - (intOf si).toNat)
  case atStart => exact ⟨0, List.replicate (xs.length + ys.length + 1) 0, by omega, rfl, by simp, Nb.ok_replicate _, by
    have e : Nb.val (List.replicate (xs.length + ys.length + 1) 0) = 0 := by
      unfold Nb.val; rw [Nb.vt_cut (k := 0) (by omega) (fun i _ _ => Nt.lb_replicate _ _)]; rfl
    rw [e]; simp [Nb.vt], hr, hbel⟩
  case round =>
    obtain ⟨i, zs, hil, rfl, hzl, hzo, hzv, hrow, hbr⟩ := hrel
    have Hzl := hide hzl
    have Hzv := hide hzv
    clear hzl hzv hr hbel
    by_cases hlt : i < xs.length
    · obtain ⟨b1, o1, rfl, hb1, hc1⟩ := (hxc.below hbr) (by omega)
      have gx0 := hc1 i hlt
      obtain ⟨bx0, bx1⟩ := hx.1 i
      clear hc1
      have hlt' : (i : Int) < (xs.length : Int) := by omega
      go_wp2
      go_loopw [9, 10] (fun sc sk wq => ∃ (k : Nat) (c : Int) (us : List Int), k ≤ ys.length ∧ sk = .int .i64 k ∧ sc = .int .i64 c ∧ 0 ≤ c ∧ c < 256 ∧ us.length = xs.length + ys.length + 1 ∧ Nb.Ok us ∧ Nb.val us + c * Nb.pw (i + k) = Nb.vt xs i * Nb.val ys + Nt.lb xs i * Nb.vt ys k * Nb.pw i ∧
          Row .i64 3 wq w2.heap.size us ∧ Below w2.heap.size w2 wq) (fun _ sk _ => ys.length - (intOf sk).toNat)
      case atStart => exact ⟨0, 0, zs, by omega, rfl, rfl, by omega, by omega, Hzl.out, hzo, by rw [Hzv.out]; simp [Nb.vt], hrow, hbr⟩
      case round =>
        obtain ⟨k, c, us, hkl, rfl, rfl, hc0, hc1, hul, huo, huv, hrowu, hbu⟩ := hrel
        have Hul := hide hul
        have Huv := hide huv
        clear hul huv hrow gx0
        by_cases hk : k < ys.length
        · obtain ⟨b2, o2, rfl, hb2, hc2⟩ := (hyc.below hbu) (by omega)
          have gy := hc2 k hk
          obtain ⟨b1', o1', he, _, hc1'⟩ := (hxc.below hbu) (by omega)
          have gx := hc1' i hlt
          simp only [Option.some.injEq, Addr.mk.injEq, and_true] at he
          obtain ⟨rfl, rfl⟩ := he
          have gz := hrowu.cell (i := i + k) (by have := Hul.out; omega)
          have hfz := hrowu.frozen (i + k)
          obtain ⟨by0, by1⟩ := hy.1 k
          obtain ⟨bz0, bz1⟩ := huo (i + k)
          obtain ⟨p0, p1⟩ := byte_prod ⟨bx0, bx1⟩ ⟨by0, by1⟩
          have hk' : (k : Int) < (ys.length : Int) := by omega
          have hik : (i : Int) + (k : Int) < (xs.length : Int) + (ys.length : Int) + 1 := by omega
          have Hst := hide (lay_step (zs := us) (p := i + k) (c := c) (d := Nt.lb xs i * Nt.lb ys k) (by have := Hul.out; omega))
          clear hc1' hc2
          go_wp2
          go_quiet (fail)
          go_wp2
          go_roundw
          case rel => exact ⟨k + 1, (Nt.lb us (i + k) + Nt.lb xs i * Nt.lb ys k + c) / 256, us.set (i + k) ((Nt.lb us (i + k) + Nt.lb xs i * Nt.lb ys k + c) % 256), by omega, by go_num, rfl, by omega, by omega, by rw [List.length_set, Hul.out], Nb.ok_set huo (by omega), by
            rw [← Nat.add_assoc, Hst.out, Huv.out, Nb.vt_succ, Nb.pw_add, Int.mul_add, Int.add_mul]
            have e : Nt.lb xs i * Nt.lb ys k * (Nb.pw i * Nb.pw k) = Nt.lb xs i * (Nt.lb ys k * Nb.pw k) * Nb.pw i := by
              rw [Int.mul_comm (Nb.pw i), Int.mul_assoc, Int.mul_assoc, Int.mul_assoc]
            omega, Row.set (by rw [row_drewN]; exact hrowu) _ _, Below.setCell (p := ⟨w2.heap.size, i + k, none⟩) (below_drewN' hbu) (Nat.le_refl _) _⟩
          case measure => simp [intOf]; omega
        · have hke : k = ys.length := by omega
          subst hke
          have hk' : ¬ (ys.length : Int) < (ys.length : Int) := by omega
          obtain ⟨T, hT⟩ : ∃ T, T = Nb.vt xs (i + 1) * Nb.val ys := ⟨_, rfl⟩
          have hT2 : Nb.val us + c * Nb.pw (i + ys.length) = T := by
            rw [hT, Huv.out, Nb.vt_succ, Int.add_mul, Int.mul_right_comm]; rfl
          have hTb : T < Nb.pw (xs.length + ys.length) := by
            rw [hT, Nb.pw_add]
            have h1 := Nb.vt_bounds hx.1 (i + 1)
            have h2 := Nb.pw_mono (m := i + 1) (n := xs.length) (by omega)
            exact mul_lt ⟨h1.1, by omega⟩ ⟨Nb.val_nonneg hy.1, Nb.val_lt hy.1⟩
          have HT := hide hT
          have HT2 := hide hT2
          have HTb := hide hTb
          clear hT hT2 hTb Huv
          go_wp2
          go_loopw [9, 12] (fun sc sk wq => ∃ (k : Nat) (c : Int) (us : List Int), k ≤ xs.length + ys.length ∧ sk = .int .i64 k ∧ sc = .int .i64 c ∧ 0 ≤ c ∧ c < 256 ∧ us.length = xs.length + ys.length + 1 ∧ Nb.Ok us ∧ Nb.val us + c * Nb.pw k = T ∧
              Row .i64 3 wq w2.heap.size us ∧ Below w2.heap.size w2 wq) (fun _ sk _ => xs.length + ys.length - (intOf sk).toNat)
          case atStart => exact ⟨i + ys.length, c, us, by omega, by go_num, rfl, hc0, hc1, Hul.out, huo, HT2.out, hrowu, hbu⟩
          case round =>
            clear hrowu hc0 hc1 HT2 hbu
            obtain ⟨k, c, us, hkl, rfl, rfl, hc0, hc1, hul, huo, huv, hrowu, hbu⟩ := hrel
            have Hul := hide hul
            have Huv := hide huv
            clear hul huv
            by_cases hp : 0 < c
            · have hkk : k < xs.length + ys.length := by
                by_cases h : k < xs.length + ys.length
                · exact h
                · have h1 := Nb.pw_mono (m := xs.length + ys.length) (n := k) (by omega)
                  have h2 := Nb.val_nonneg huo
                  have h3 : 1 * Nb.pw k ≤ c * Nb.pw k := Int.mul_le_mul_of_nonneg_right (by omega) (by have := Nb.pw_pos k; omega)
                  have h4 := Huv.out
                  have h5 := HTb.out
                  omega
              have gz := hrowu.cell (i := k) (by have := Hul.out; omega)
              have hfz := hrowu.frozen k
              obtain ⟨bz0, bz1⟩ := huo k
              have Hst := hide (lay_step (zs := us) (p := k) (c := c) (d := 0) (by have := Hul.out; omega))
              go_wp2
              go_roundw
              case rel => exact ⟨k + 1, (Nt.lb us k + c) / 256, us.set k ((Nt.lb us k + c) % 256), by omega, by go_num, rfl, by omega, by omega, by rw [List.length_set, Hul.out], Nb.ok_set huo (by omega), by
                have h := Hst.out
                rw [Int.add_zero, Int.zero_mul, Int.add_zero] at h
                rw [h]; exact Huv.out, hrowu.set _ _, hbu.setCell (p := ⟨w2.heap.size, k, none⟩) (Nat.le_refl _) _⟩
              case measure => simp [intOf]; omega
            · have hc00 : c = 0 := by omega
              subst hc00
              go_wp2
              go_roundw
              case rel => exact ⟨i + 1, us, by omega, by go_num, Hul.out, huo, by
                have h := Huv.out
                rw [Int.zero_mul, Int.add_zero] at h
                rw [h]; exact HT.out, hrowu, hbu⟩
              case measure => simp [intOf]; omega
    · have hke : i = xs.length := by omega
      subst hke
      have hk' : ¬ (xs.length : Int) < (xs.length : Int) := by omega
      have hz2 : zs.length = xs.length + ys.length + 1 := Hzl.out
      have hfin : Nb.val zs = Nb.val xs * Nb.val ys := Hzv.out
      have hrd : Reads .i64 wr (.slice (some ⟨w2.heap.size, 0, none⟩) (xs.length + ys.length + 1) (xs.length + ys.length + 1)) zs := ⟨_, xs.length + ys.length + 1, by rw [hz2], by omega, by unfold maxLen; omega, fun _ => ⟨w2.heap.size, 0, rfl, hrow.lt, fun i hi => by rw [Nat.zero_add]; exact hrow.cell hi⟩⟩
      have hla := limbs_any (ka := xs.length + ys.length + 1) ⟨zs, hrd, hzo, rfl, by omega⟩ (by omega)
      rw [hfin] at hla
      have Hla := hide hla
      clear hfin hrd hla hz2
      go_wp2_with fail
      refine Calls.mono Hla.out ?_
      rintro e w5 ⟨v, rfl, hv, hb5⟩
      go_wp2
      go_ret
      exact ⟨v, rfl, (num_since hv (by have := hbb.size; have := hbr.size; omega)).mono (by omega), below_trans hbb (hbr.trans (hb5.mono hbr.size))⟩

end Go.Proofs.YtinfkoiifemjmaaGreatDoor

namespace Go.Proofs.YtinfkoiifemjmaaGreatDoor
open Go.RowKit

theorem power_0 (w : World) : Calls Tryz.prog 120 #[.int .i64 0] w fun e w' => e = .returned (.int .i64 1) ∧ w' = w := by
  have hi : ∀ w, (Instr.index 210 (.agg #[.int .i64 1, .int .i64 2, .int .i64 4, .int .i64 8, .int .i64 16, .int .i64 32, .int .i64 64, .int .i64 128]) (.int .i64 0)).run Tryz.prog w = .ok (.int .i64 1) w := fun _ => by kernel_rfl
  go_enter Tryz.func120, Tryz.ntmps120
  go_wp2
  go_ret
  exact ⟨rfl, rfl⟩
theorem power_1 (w : World) : Calls Tryz.prog 120 #[.int .i64 1] w fun e w' => e = .returned (.int .i64 2) ∧ w' = w := by
  have hi : ∀ w, (Instr.index 210 (.agg #[.int .i64 1, .int .i64 2, .int .i64 4, .int .i64 8, .int .i64 16, .int .i64 32, .int .i64 64, .int .i64 128]) (.int .i64 1)).run Tryz.prog w = .ok (.int .i64 2) w := fun _ => by kernel_rfl
  go_enter Tryz.func120, Tryz.ntmps120
  go_wp2
  go_ret
  exact ⟨rfl, rfl⟩
theorem power_2 (w : World) : Calls Tryz.prog 120 #[.int .i64 2] w fun e w' => e = .returned (.int .i64 4) ∧ w' = w := by
  have hi : ∀ w, (Instr.index 210 (.agg #[.int .i64 1, .int .i64 2, .int .i64 4, .int .i64 8, .int .i64 16, .int .i64 32, .int .i64 64, .int .i64 128]) (.int .i64 2)).run Tryz.prog w = .ok (.int .i64 4) w := fun _ => by kernel_rfl
  go_enter Tryz.func120, Tryz.ntmps120
  go_wp2
  go_ret
  exact ⟨rfl, rfl⟩
theorem power_3 (w : World) : Calls Tryz.prog 120 #[.int .i64 3] w fun e w' => e = .returned (.int .i64 8) ∧ w' = w := by
  have hi : ∀ w, (Instr.index 210 (.agg #[.int .i64 1, .int .i64 2, .int .i64 4, .int .i64 8, .int .i64 16, .int .i64 32, .int .i64 64, .int .i64 128]) (.int .i64 3)).run Tryz.prog w = .ok (.int .i64 8) w := fun _ => by kernel_rfl
  go_enter Tryz.func120, Tryz.ntmps120
  go_wp2
  go_ret
  exact ⟨rfl, rfl⟩
theorem power_4 (w : World) : Calls Tryz.prog 120 #[.int .i64 4] w fun e w' => e = .returned (.int .i64 16) ∧ w' = w := by
  have hi : ∀ w, (Instr.index 210 (.agg #[.int .i64 1, .int .i64 2, .int .i64 4, .int .i64 8, .int .i64 16, .int .i64 32, .int .i64 64, .int .i64 128]) (.int .i64 4)).run Tryz.prog w = .ok (.int .i64 16) w := fun _ => by kernel_rfl
  go_enter Tryz.func120, Tryz.ntmps120
  go_wp2
  go_ret
  exact ⟨rfl, rfl⟩
theorem power_5 (w : World) : Calls Tryz.prog 120 #[.int .i64 5] w fun e w' => e = .returned (.int .i64 32) ∧ w' = w := by
  have hi : ∀ w, (Instr.index 210 (.agg #[.int .i64 1, .int .i64 2, .int .i64 4, .int .i64 8, .int .i64 16, .int .i64 32, .int .i64 64, .int .i64 128]) (.int .i64 5)).run Tryz.prog w = .ok (.int .i64 32) w := fun _ => by kernel_rfl
  go_enter Tryz.func120, Tryz.ntmps120
  go_wp2
  go_ret
  exact ⟨rfl, rfl⟩
theorem power_6 (w : World) : Calls Tryz.prog 120 #[.int .i64 6] w fun e w' => e = .returned (.int .i64 64) ∧ w' = w := by
  have hi : ∀ w, (Instr.index 210 (.agg #[.int .i64 1, .int .i64 2, .int .i64 4, .int .i64 8, .int .i64 16, .int .i64 32, .int .i64 64, .int .i64 128]) (.int .i64 6)).run Tryz.prog w = .ok (.int .i64 64) w := fun _ => by kernel_rfl
  go_enter Tryz.func120, Tryz.ntmps120
  go_wp2
  go_ret
  exact ⟨rfl, rfl⟩
theorem power_7 (w : World) : Calls Tryz.prog 120 #[.int .i64 7] w fun e w' => e = .returned (.int .i64 128) ∧ w' = w := by
  have hi : ∀ w, (Instr.index 210 (.agg #[.int .i64 1, .int .i64 2, .int .i64 4, .int .i64 8, .int .i64 16, .int .i64 32, .int .i64 64, .int .i64 128]) (.int .i64 7)).run Tryz.prog w = .ok (.int .i64 128) w := fun _ => by kernel_rfl
  go_enter Tryz.func120, Tryz.ntmps120
  go_wp2
  go_ret
  exact ⟨rfl, rfl⟩
theorem power_any (s : Nat) (hs : s < 8) (w : World) : Calls Tryz.prog 120 #[.int .i64 s] w fun e w' => e = .returned (.int .i64 (p2 s)) ∧ w' = w := by
  match s, hs with
  | 0, _ => exact power_0 w
  | 1, _ => exact power_1 w
  | 2, _ => exact power_2 w
  | 3, _ => exact power_3 w
  | 4, _ => exact power_4 w
  | 5, _ => exact power_5 w
  | 6, _ => exact power_6 w
  | 7, _ => exact power_7 w

theorem b_vt_pad (W : Nat) (ys : List Int) (m : Nat) : Nb.vt (List.replicate W 0 ++ ys) (W + m) = Nb.vt ys m * Nb.pw W := by
  induction m with
  | zero =>
    rw [Nat.add_zero, Nb.vt_cut (k := 0) (by omega) (fun i _ h => lb_pad_low W ys h)]; simp [Nb.vt]
  | succ m ih => rw [← Nat.add_assoc, Nb.vt_succ, ih, lb_pad, Nb.vt_succ, Nb.pw_add, Int.add_mul, Int.mul_comm (Nb.pw W), Int.mul_assoc]
theorem b_val_pad (W : Nat) (ys : List Int) : Nb.val (List.replicate W 0 ++ ys) = Nb.val ys * Nb.pw W := by
  unfold Nb.val
  rw [List.length_append, List.length_replicate]
  exact b_vt_pad W ys _
theorem b_ok_pad {ys : List Int} (W : Nat) (h : Nb.Ok ys) : Nb.Ok (List.replicate W 0 ++ ys) := by
  intro i
  by_cases h1 : i < W
  · rw [lb_pad_low W ys h1]; omega
  · obtain ⟨j, rfl⟩ : ∃ j, i = W + j := ⟨i - W, by omega⟩
    rw [lb_pad]; exact h j

set_option maxHeartbeats 1000000 in
theorem rshl_zero {w : World} {va : Value} {n : Int} {ka : Nat} (ha : Arg w va 0 ka) (hka : ka ≤ 1099511627776) (hn : 0 ≤ n) :
    Calls Tryz.prog 80 #[va, .int .i64 n] w fun e w' => e = .returned (.tuple #[.slice none 0 0, .bool true]) ∧ Below w.heap.size w w' := by
  have hn' : ¬ n < 0 := by omega
  go_enter Tryz.func80, Tryz.ntmps80
  go_wp2_with fail
  refine (bytes_any ha hka).mono ?_
  rintro e w1 ⟨v1, rfl, ⟨xs, ⟨ao, ca, rfl, hxl, hxm, hxc⟩, hx, hv, hxk⟩, hb1⟩
  have hxe := (Nb.canon_zero hx).1 hv
  subst hxe
  clear ha hv
  go_wp2
  go_ret2
  exact ⟨rfl, hb1⟩

theorem b_canon_pos {xs : List Int} (h : 0 < Nb.val xs) : 0 < xs.length := by
  rcases Nat.eq_zero_or_pos xs.length with h0 | h0
  · rw [List.eq_nil_of_length_eq_zero h0, Nb.val_nil] at h; omega
  · exact h0

theorem owns_drewN {w : World} {n : Nat} {B : Nat} {E : TypeId} {sz : Nat} {v : Value} {m : Nat} {xs : List Value} (h : w.ownsRow B E sz v m xs) : (w.drewN n).ownsRow B E sz v m xs := by
  induction n with
  | zero => exact h
  | succ n ih => exact ih.drew

set_option maxRecDepth 100000 in
set_option maxHeartbeats 4000000 in
theorem rshl_ok {w : World} {va : Value} {A : Int} {ka k N W s : Nat} (ha : Arg w va A ka) (hka : ka ≤ 1099511627776) (hA : 0 < A) (hk : IsLen A k) (hk2 : k ≤ 32 * ka) (hfit : N + k ≤ 8388608) (hN : N = 8 * W + s) (hs : s < 8) :
    Calls Tryz.prog 80 #[va, .int .i64 N] w fun e w' => ∃ v, e = .returned (.tuple #[v, .bool true]) ∧ Num w.heap.size w' v (A * p2 N) (W + ka + 1) ∧ Below w.heap.size w w' := by
  have hq : (N : Int) / 8 = (W : Int) := by omega
  have hr : (N : Int) % 8 = (s : Int) := by omega
  have HN := hide hN
  have Hk := hide hk
  clear hN hk
  have hNb : ¬ 8388608 < (N : Int) := by omega
  have hWb : W ≤ 1048576 := by omega
  obtain ⟨i0, hi, hz0, hz1, hz2⟩ := info_parts Tryz.infoI64
  go_enter Tryz.func80, Tryz.ntmps80
  go_wp2_with fail
  refine (bytes_any ha hka).mono ?_
  rintro e w1 ⟨v1, rfl, ⟨xs, ⟨ao, ca, rfl, hxl, hxm, hxc⟩, hx, rfl, hxk⟩, hb1⟩
  have hp := b_canon_pos hA
  have h0 : ((xs.length : Int) == 0) = false := by simp; intro e; subst e; simp at hp
  clear hA
  go_wp2_with fail
  refine (rlen_any (ha.below hb1) hka Hk.out).mono ?_
  rintro e w2 ⟨rfl, hb2⟩
  have hg2 : ¬ 8388608 < (k : Int) + (N : Int) := by omega
  replace hxc := hxc.below hb2
  have hbb := below_trans hb1 hb2
  clear ha hb1 hb2
  go_wp2_with (at_make; refine wpList_make_full _ rfl _ _ 99 rfl w2.heap.size 3 i0 (.int .i64 0) 1 Tryz.underlying99 hi hz0 hz1 _ _ _ _ W rfl rfl (by omega) (by omega) ?b2 ?b3 (Nat.le_refl _) ?_)
  case b2 => rw [hz2]; omega
  case b3 => unfold maxLen; omega
  intro w3 hown0 hgrow0
  have hbel0 : Below w2.heap.size w2 w3 := (Below.refl _ _).grown hgrow0 (Nat.le_refl _) (fun k h => by cases h)
  have hown1 : w3.ownsRow w2.heap.size 3 1 (.slice (some ⟨w2.heap.size, 0, none⟩) W W) (W + 0) ((List.replicate W (0 : Int) ++ []).map (Value.int .i64)) := by
    have e : (madeCells #[Value.int IntKind.i64 0] W).toList = (List.replicate W (0 : Int) ++ []).map (Value.int .i64) := by
      rw [toList_madeCells_one]; simp
    rw [← e]; exact hown0
  clear hown0 hgrow0
  have hP0 := p2_pos s
  have hP1 : p2 s ≤ 128 := by have h := p2_mono (m := s) (n := 7) (by omega); rw [show p2 7 = 128 by decide] at h; exact h
  obtain ⟨P, hP⟩ : ∃ P, p2 s = P := ⟨_, rfl⟩
  have hpow := fun (W : World) => power_any s hs W
  rw [hP] at hP0 hP1 hpow
  have HP := hide hP
  have Hpow := hide hpow
  clear hP hpow
  go_wp2
  go_loopw [7, 8, 9] (fun out sc si wr => ∃ (c : Int) (us : List Int), us.length ≤ xs.length ∧ si = .int .i64 us.length ∧ sc = .int .i64 c ∧ 0 ≤ c ∧ c < P ∧ Nb.Ok us ∧ Nb.val us + c * Nb.pw us.length = Nb.vt xs us.length * P ∧
      wr.ownsRow w2.heap.size 3 1 out (W + us.length) ((List.replicate W (0 : Int) ++ us).map (Value.int .i64)) ∧ Below w2.heap.size w2 wr) (fun _ _ si _ => xs.length - (intOf si).toNat)
  case atStart => exact ⟨0, [], by simp, rfl, rfl, by omega, hP0, Nb.ok_nil, by simp [Nb.val, Nb.vt], hown1, hbel0⟩
  case round =>
    obtain ⟨c, us, hul, rfl, rfl, hc0, hc1, huo, heq, hown, hbr⟩ := hrel
    have Heq := hide heq
    clear heq hown1 hbel0
    obtain ⟨j, hj⟩ : ∃ j, us.length = j := ⟨_, rfl⟩
    rw [hj] at hown hul ⊢
    have Hj := hide hj
    clear hj
    have hsz := hbr.size
    by_cases h1 : j < xs.length
    · have hc1' : (j : Int) < (xs.length : Int) := by omega
      obtain ⟨b1, o1, rfl, _, hcc⟩ := (hxc.below hbr) (by omega)
      have g1 := hcc j h1
      obtain ⟨bx0, bx1⟩ := hx.1 j
      have p0 : 0 ≤ Nt.lb xs j * P := Int.mul_nonneg bx0 (by omega)
      have p1 : Nt.lb xs j * P ≤ 255 * P := Int.mul_le_mul_of_nonneg_right (by omega) (by omega)
      have hown2 : ∀ nq, (wr.drewN nq).ownsRow w2.heap.size 3 1 _ (W + j) ((List.replicate W (0 : Int) ++ us).map (Value.int .i64)) := fun nq => owns_drewN hown
      clear hcc hxc
      go_wp2
      go_quiet ((go_at_call 120; exact Calls.quiet_of_same (Hpow.out _)))
      go_wp2_with (at_builtin; refine wpList_append_cells _ rfl _ _ 99 rfl w2.heap.size 3 .i64 8 Tryz.underlying99 Tryz.infoI64 _ (W + j) (List.replicate W (0 : Int) ++ us) rfl ((hown2 _).alloc _) _ 1 [(Nt.lb xs j * P + c) % 256] rfl (cells_one _ _ _ _) (by unfold maxLen; simp; omega) (by simp; omega) (by simp; omega) ?_)
      intro v' w4 hown' hgrow
      have hb4 : Below w2.heap.size w2 w4 := below_own ((below_drewN' hbr).alloc (by rw [heap_drewN]; exact hsz) _) (by simp; omega) ((hown2 _).alloc _) hgrow
      have Hown' := hide hown'
      have hst := byte_step (V := Nb.val us) (x := Nt.lb xs j * P + c) (P := Nb.pw j)
      have Hst := hide hst
      clear hown' hgrow hst hown hown2
      go_wp2
      go_roundw
      case rel => exact ⟨(Nt.lb xs j * P + c) / 256, us ++ [(Nt.lb xs j * P + c) % 256], by rw [List.length_append, List.length_singleton, Hj.out]; omega, by rw [List.length_append, List.length_singleton, Hj.out]; go_num, rfl, by omega, by omega, Nb.ok_snoc huo (by omega), by
        have h1 := Heq.out
        rw [Hj.out] at h1
        rw [Nb.val_snoc, List.length_append, List.length_singleton, Hj.out, Nb.pw_succ, Hst.out, Nb.vt_succ, Int.add_mul, Int.add_mul, ← h1, Int.mul_right_comm]; omega, by simpa [Hj.out, Nat.add_assoc] using Hown'.out, hb4⟩
      case measure => simp [intOf]; omega
    · have hc1' : ¬ (j : Int) < (xs.length : Int) := by omega
      have Hje := hide (show j = xs.length by omega)
      go_wp2_with (at_builtin; refine wpList_append_cells _ rfl _ _ 99 rfl w2.heap.size 3 .i64 8 Tryz.underlying99 Tryz.infoI64 _ (W + j) (List.replicate W (0 : Int) ++ us) rfl (hown.alloc _) _ 1 [c] rfl (cells_one _ _ _ _) (by unfold maxLen; simp; omega) (by simp; omega) (by simp; omega) ?_)
      intro v' w4 hown' hgrow
      have hb4 : Below w2.heap.size w2 w4 := below_own (hbr.alloc hsz _) (by simp; omega) (hown.alloc _) hgrow
      have hfin : Nb.val (List.replicate W (0 : Int) ++ (us ++ [c])) = Nb.val xs * p2 N := by
        have h1 := Heq.out
        rw [Hj.out, Hje.out] at h1
        rw [b_val_pad, Nb.val_snoc, Hj.out, Hje.out, h1, HN.out, p2_add, p2_8, HP.out]
        unfold Nb.val
        rw [Int.mul_assoc, Int.mul_comm P]
      have hrd : Reads .i64 w4 v' (List.replicate W (0 : Int) ++ (us ++ [c])) := reads_of_owns (n := W + j + 1) (by simpa using hown')
      have hla := limbs_any (ka := W + j + 1) ⟨_, hrd, b_ok_pad W (Nb.ok_snoc huo (by omega)), rfl, by simp [Hj.out]; omega⟩ (by omega)
      rw [hfin] at hla
      have Hla := hide hla
      clear hown' hgrow hown hfin hrd hla
      go_wp2_with fail
      refine Calls.mono Hla.out ?_
      rintro e w5 ⟨v, rfl, hv, hb5⟩
      go_wp2
      go_ret2
      exact ⟨v, rfl, (num_since hv (by have := hbb.size; have := hb4.size; omega)).mono (by omega), below_trans hbb (hb4.trans (hb5.mono hb4.size))⟩

end Go.Proofs.YtinfkoiifemjmaaGreatDoor

namespace Go.Proofs.YtinfkoiifemjmaaGreatDoor
open Go.RowKit

/-- append as one step of a region that draws its order -/
theorem step_append_cells {P : Program} {ops : Array Oper} {o : Oper} {a : Act} {w : World} {K : Act → World → Prop} {Q : Exit → Act → World → Prop} {E : Prop} (hgd : o.guard = none) (s x : Operand) (t : TypeId)
    (ho : o.op = .call { callee := .builtin .append, args := #[s, x], argTypes := #[t, t] })
    (base : Nat) (e : TypeId) (kd : IntKind) (bytes : Nat) (ht : P.underlying t = some (.slice e)) (hinf : (P.info? e).map (fun i => (i.zero, i.size, i.bytes)) = some (some (.int kd 0), 1, bytes))
    (v : Value) (n : Nat) (xs : List Int) (hs : a.eval s = v) (hown : w.ownsRow base e 1 v n (xs.map (Value.int kd))) (ad : Addr) (c : Nat) (y : Int) (hx : a.eval x = .slice (some ad) 1 c) (hc : Cells kd w (some ad) [y])
    (h63 : n + 1 ≤ maxLen) (hbytes : (n + 1) * bytes ≤ 140737488355328) (hbase : base ≤ w.heap.size)
    (h : ∀ v' w', w'.ownsRow base e 1 v' (n + 1) ((xs ++ [y]).map (Value.int kd)) → w.grownBy w' v.ownBlock → K (a.put o.dst v') w') :
    if Region.wanted o (yielded ops a.tmps) = true then Oper.wp P o a w K Q else E := by
  have hw : Region.wanted o (yielded ops a.tmps) = true := by simp [Region.wanted, hgd]
  rw [if_pos hw]
  obtain ⟨i, hi, hz, hsz, hby⟩ := info_parts hinf
  refine wp_append_own w s x t ho base e i (.int kd 0) 1 bytes ht hi hz hsz hby rfl (by decide) v n _ hs hown ad 1 c [Value.int kd y] hx rfl ?_ (ints_oneCell kd [y]) h63 hbytes hbase ?_
  · intro j u hu
    have hj : j < 1 := by have := (List.getElem?_eq_some_iff.1 hu).1; simpa using this
    have hj0 : j = 0 := by omega
    subst hj0
    obtain ⟨b, off, he, _, hcell⟩ := hc (by simp)
    cases he
    rw [Addr.add_lit, hcell 0 (by simp)]
    simp at hu
    rw [← hu]; simp [Nt.lb]
  · intro v' w' h1 h2 _
    exact h v' w' (by simpa using h1) h2

theorem power_told {P : Int} (s : Nat) (hs : s < 8) (hP : p2 s = P) (w : World) : Calls Tryz.prog 120 #[.int .i64 s] w fun e w' => e = .returned (.int .i64 P) ∧ w' = w := by
  subst hP
  exact power_any s hs w
theorem at_int (ao : Option Addr) (cap : Nat) (xs : List Int) (i : Int) (k : Nat) (hi : i = k) (w : World) (hm : xs.length ≤ maxLen) (hc : Cells .i64 w ao xs) :
    Calls Tryz.prog 159 #[.slice ao xs.length cap, .int .i64 i] w fun e w' => e = .returned (.int .i64 (Nt.lb xs k)) ∧ w' = w := by
  subst hi
  exact at_any ao cap xs k w hm hc

set_option maxHeartbeats 1000000 in
theorem rshr_far {w : World} {va : Value} {n A : Int} {ka : Nat} (ha : Arg w va A ka) (hka : ka ≤ 1099511627776) (hn : 0 ≤ n) (hn2 : n ≤ 9223372036854775807) (hf : A < Nb.pw (n / 8).toNat) :
    Calls Tryz.prog 179 #[va, .int .i64 n] w fun e w' => e = .returned (.tuple #[.slice none 0 0, .bool (decide (0 < A)), .bool true]) ∧ Below w.heap.size w w' := by
  have hn' : ¬ n < 0 := by omega
  go_enter Tryz.func179, Tryz.ntmps179
  go_wp2_with fail
  refine (bytes_any ha hka).mono ?_
  rintro e w1 ⟨v1, rfl, ⟨xs, ⟨ao, ca, rfl, hxl, hxm, hxc⟩, hx, rfl, hxk⟩, hb1⟩
  have hlen : (xs.length : Int) ≤ n / 8 := by
    by_cases h : xs.length ≤ (n / 8).toNat
    · omega
    · have hne : xs ≠ [] := by intro e; subst e; simp at h
      have h1 := Nb.canon_low hx hne
      have h2 := Nb.pw_mono (m := (n / 8).toNat) (n := xs.length - 1) (by omega)
      omega
  have hgt : decide (0 < Nb.val xs) = decide (0 < xs.length) := by
    by_cases h0 : xs.length = 0
    · have e := List.eq_nil_of_length_eq_zero h0
      subst e; rfl
    · have hne : xs ≠ [] := by intro e; subst e; simp at h0
      have h1 := Nb.canon_low hx hne
      have h2 := Nb.pw_pos (xs.length - 1)
      rw [decide_eq_true (by omega), decide_eq_true (by omega)]
  have Hgt := hide hgt
  clear ha hgt hf
  go_wp2
  go_ret3
  rw [Hgt.out]
  exact ⟨rfl, hb1⟩

theorem b_val_drop {xs : List Int} {W : Nat} (h : W ≤ xs.length) : Nb.val xs = Nb.vt xs W + Nb.val (xs.drop W) * Nb.pw W := by
  have key : ∀ m, Nb.vt xs (W + m) = Nb.vt xs W + Nb.vt (xs.drop W) m * Nb.pw W := by
    intro m
    induction m with
    | zero => simp [Nb.vt]
    | succ m ih =>
      have e : Nt.lb (xs.drop W) m = Nt.lb xs (W + m) := by simp [Nt.lb, List.getElem?_drop]
      rw [← Nat.add_assoc, Nb.vt_succ, ih, Nb.vt_succ, e, Nb.pw_add, Int.add_mul, Int.mul_comm (Nb.pw W), Int.mul_assoc]
      omega
  have := key (xs.length - W)
  rw [show W + (xs.length - W) = xs.length by omega] at this
  unfold Nb.val
  rw [List.length_drop]
  exact this

/-- two bytes cut: what stays of the lower, and the low bits of the higher -/
theorem cut_byte {d e P R : Int} (hP : 0 < P) (hR : 0 < R) (hPR : P * R = 256) (hd : 0 ≤ d ∧ d < 256) :
    (0 ≤ (d + 256 * e) / P % 256 ∧ (d + 256 * e) / P % 256 < 256) ∧ P * ((d + 256 * e) / P % 256) = d - d % P + 256 * (e % P) := by
  have h1 : (d + 256 * e) / P = d / P + R * e := by
    rw [← hPR, Int.mul_assoc, Int.add_mul_ediv_left _ _ (by omega)]
  have q0 : 0 ≤ d / P := Int.ediv_nonneg hd.1 (by omega)
  have q1 : d / P < R := Int.ediv_lt_of_lt_mul hP (by rw [Int.mul_comm, hPR]; exact hd.2)
  have r0 := Int.emod_nonneg e (b := P) (by omega)
  have r1 := Int.emod_lt_of_pos e hP
  have h2 : R * e = R * (e % P) + 256 * (e / P) := by
    have h := Int.emod_add_mul_ediv e P
    have : R * (e % P + P * (e / P)) = R * e := by rw [h]
    rw [Int.mul_add, ← Int.mul_assoc, Int.mul_comm R P, hPR] at this
    omega
  have h3 : R * (e % P) + R ≤ 256 := by
    have : R * (e % P + 1) ≤ R * P := Int.mul_le_mul_of_nonneg_left (by omega) (by omega)
    rw [Int.mul_add, Int.mul_comm R P, hPR] at this
    omega
  have h30 : 0 ≤ R * (e % P) := Int.mul_nonneg (by omega) r0
  have h4 : (d + 256 * e) / P % 256 = d / P + R * (e % P) := by
    rw [h1, h2]; omega
  rw [h4]
  refine ⟨⟨by omega, by omega⟩, ?_⟩
  have h5 := Int.emod_add_mul_ediv d P
  rw [Int.mul_add, ← Int.mul_assoc, hPR]
  omega

theorem cut_step {D us : List Int} {P r0 : Int} {u : Int} (hu : P * u = Nt.lb D us.length - Nt.lb D us.length % P + 256 * (Nt.lb D (us.length + 1) % P))
    (h : P * Nb.val us = Nb.vt D us.length - r0 + (Nt.lb D us.length % P) * Nb.pw us.length) :
    P * Nb.val (us ++ [u]) = Nb.vt D (us.length + 1) - r0 + (Nt.lb D (us.length + 1) % P) * Nb.pw (us.length + 1) := by
  rw [Nb.val_snoc, Int.mul_add, h, Nb.vt_succ, Nb.pw_succ, ← Int.mul_assoc P, hu, Int.add_mul, Int.sub_mul]
  rw [← Int.mul_assoc (Nt.lb D (us.length + 1) % P), Int.mul_comm (Nt.lb D (us.length + 1) % P) 256]
  omega

theorem cut_end {A V U r0 P Q : Int} (hQ : 0 < Q) (hV0 : 0 ≤ V) (hV1 : V < Q) (h0 : 0 ≤ r0) (h1 : r0 < P) (hA : A = V + (P * U + r0) * Q) :
    A / (Q * P) = U ∧ (0 < A % (Q * P) ↔ 0 < r0 + V) := by
  have hP : 0 < P := by omega
  have hQP : 0 < Q * P := Int.mul_pos hQ hP
  have e : A = (V + r0 * Q) + (Q * P) * U := by
    rw [hA, Int.add_mul, Int.mul_comm (P * U) Q, Int.mul_assoc Q P U]; omega
  have b0 : 0 ≤ r0 * Q := Int.mul_nonneg h0 (by omega)
  have b1 : r0 * Q + Q ≤ Q * P := by
    have h : (r0 + 1) * Q ≤ P * Q := Int.mul_le_mul_of_nonneg_right (by omega) (by omega)
    rw [Int.add_mul, Int.mul_comm P Q] at h
    omega
  refine ⟨?_, ?_⟩
  · rw [e, Int.add_mul_ediv_left _ _ (by omega), Int.ediv_eq_zero_of_lt (by omega) (by omega)]; omega
  · rw [e, Int.add_mul_emod_self_left, Int.emod_eq_of_lt (by omega) (by omega)]
    rcases Int.lt_or_eq_of_le h0 with h | h
    · have := Int.mul_pos h hQ
      constructor <;> intro _ <;> omega
    · rw [← h, Int.zero_mul]; constructor <;> intro _ <;> omega

theorem cells_one_drew (w : World) (E : TypeId) (k : IntKind) (x : Int) : Cells k (w.alloc (.cells #[.int k x] E)).drew (some ⟨w.heap.size, 0, none⟩) [x] := cells_one w.drew E k x

set_option maxRecDepth 100000 in
set_option maxHeartbeats 8000000 in
theorem rshr_near {w : World} {va : Value} {A : Int} {ka N W s : Nat} (ha : Arg w va A ka) (hka : ka ≤ 1099511627776) (hN : N = 8 * W + s) (hs : s < 8) (hf : Nb.pw W ≤ A) :
    Calls Tryz.prog 179 #[va, .int .i64 N] w fun e w' => ∃ v, e = .returned (.tuple #[v, .bool (decide (0 < A % p2 N)), .bool true]) ∧ Num w.heap.size w' v (A / p2 N) (ka + 1) ∧ Below w.heap.size w w' := by
  have hq : (N : Int) / 8 = (W : Int) := by omega
  have hr : (N : Int) % 8 = (s : Int) := by omega
  have HN := hide hN
  clear hN
  go_enter Tryz.func179, Tryz.ntmps179
  go_wp2_with fail
  refine (bytes_any ha hka).mono ?_
  rintro e w1 ⟨v1, rfl, ⟨xs, ⟨ao, ca, rfl, hxl, hxm, hxc⟩, hx, rfl, hxk⟩, hb1⟩
  clear ha
  have hW : W < xs.length := by
    by_cases h : W < xs.length
    · exact h
    · have h1 := Nb.val_lt hx.1
      have h2 := Nb.pw_mono (m := xs.length) (n := W) (by omega)
      omega
  have hW1 : (W : Int) < (xs.length : Int) := by omega
  have hW3 : ¬ (xs.length : Int) ≤ (W : Int) := by omega
  clear hf
  have hP0 := p2_pos s
  have hP1 : p2 s ≤ 128 := by have h := p2_mono (m := s) (n := 7) (by omega); rw [show p2 7 = 128 by decide] at h; exact h
  have hR0 := p2_pos (8 - s)
  have hPR : p2 s * p2 (8 - s) = 256 := by rw [← p2_add, show s + (8 - s) = 8 by omega]; decide
  obtain ⟨P, hP⟩ : ∃ P, p2 s = P := ⟨_, rfl⟩
  have hpow := fun (W : World) => power_any s hs W
  rw [hP] at hP0 hP1 hPR hpow
  have HP := hide hP
  have Hpow := hide hpow
  have HPR := hide hPR
  clear hP hpow hPR
  obtain ⟨b1, o1, rfl, hbb1, hcc⟩ := hxc (by omega)
  have gW := hcc W hW
  obtain ⟨bw0, bw1⟩ := hx.1 W
  have hxc : Cells .i64 w1 (some ⟨b1, o1, none⟩) xs := fun _ => ⟨b1, o1, rfl, hbb1, hcc⟩
  obtain ⟨r0, hr0⟩ : ∃ r0, Nt.lb xs W % P = r0 := ⟨_, rfl⟩
  have hr00 : 0 ≤ r0 := by rw [← hr0]; exact Int.emod_nonneg _ (by omega)
  have hr01 : r0 < P := by rw [← hr0]; exact Int.emod_lt_of_pos _ hP0
  have HR := hide hr0
  clear hcc
  go_wp2
  go_quiet ((go_at_call 120; exact Calls.quiet_of_same (Hpow.out _)))
  go_wp2
  go_loopw [8, 9] (fun sm si wr => ∃ (i : Nat) (b : Bool), i ≤ W ∧ si = .int .i64 i ∧ sm = .bool b ∧ (b = true ↔ 0 < r0 + Nb.vt xs i) ∧ Below w1.heap.size w1 wr) (fun _ si _ => W - (intOf si).toNat)
  case atStart => exact ⟨0, _, by omega, rfl, rfl, by simp only [Nb.vt]; simp, below_drewN' (Below.refl _ _)⟩
  case round =>
    obtain ⟨i, b, hiW, rfl, rfl, hb, hbr⟩ := hrel
    have Hb := hide hb
    clear hb gW
    obtain ⟨_, _, he, _, hcc⟩ := (hxc.below hbr) (by omega)
    cases he
    by_cases hi : i < W
    · have hi' : (i : Int) < (W : Int) := by omega
      have gi := hcc i (by omega)
      have hix : (i : Int) < (xs.length : Int) := by omega
      obtain ⟨bi0, bi1⟩ := hx.1 i
      have hpi := Nb.pw_pos i
      have hv0 := (Nb.vt_bounds hx.1 i).1
      have hvs : 0 < r0 + Nb.vt xs (i + 1) ↔ (0 < r0 + Nb.vt xs i ∨ 0 < Nt.lb xs i) := by
        rw [Nb.vt_succ]
        constructor
        · intro h
          by_cases h1 : 0 < Nt.lb xs i
          · exact Or.inr h1
          · have h2 : Nt.lb xs i = 0 := by omega
            rw [h2, Int.zero_mul] at h
            exact Or.inl (by omega)
        · intro h
          have h3 : 0 ≤ Nt.lb xs i * Nb.pw i := Int.mul_nonneg bi0 (by omega)
          rcases h with h | h
          · omega
          · have : 0 < Nt.lb xs i * Nb.pw i := Int.mul_pos h hpi
            omega
      have Hvs := hide hvs
      clear hvs hcc
      cases b with
      | true =>
        go_wp2
        go_roundw
        case rel => exact ⟨i + 1, true, by omega, by go_num, rfl, by rw [Hvs.out]; exact ⟨fun _ => Or.inl (Hb.out.1 rfl), fun _ => rfl⟩, hbr⟩
        case measure => simp [intOf]; omega
      | false =>
        have hnb : ¬ 0 < r0 + Nb.vt xs i := fun h => by have := Hb.out.2 h; cases this
        have Hnb := hide hnb
        clear hnb
        go_wp2
        go_roundw
        case rel => exact ⟨i + 1, decide (0 < Nt.lb xs i), by omega, by go_num, rfl, by
          rw [Hvs.out, decide_eq_true_eq]
          exact ⟨fun h => Or.inr h, fun h => h.resolve_left Hnb.out⟩, hbr⟩
        case measure => simp [intOf]; omega
    · have hiW' : i = W := by omega
      subst hiW'
      obtain ⟨wo, rfl⟩ : ∃ x : World, x = wr := ⟨_, rfl⟩
      have hi' : ¬ (i : Int) < (i : Int) := by omega
      clear hcc
      obtain ⟨D, hD⟩ : ∃ D, xs.drop i = D := ⟨_, rfl⟩
      have hDl : D.length = xs.length - i := by rw [← hD, List.length_drop]
      have hDlb : ∀ j, Nt.lb D j = Nt.lb xs (i + j) := by intro j; rw [← hD]; simp [Nt.lb, List.getElem?_drop]
      have hDv : Nb.val xs = Nb.vt xs i + Nb.val D * Nb.pw i := by rw [← hD]; exact b_val_drop (by omega)
      have HDl := hide hDl
      have HDlb := hide hDlb
      have HDv := hide hDv
      clear hD hDl hDlb hDv
      have hW1s := hb1.size
      go_wp2
      go_loopw [10, 11] (fun out si wr' => ∃ (us : List Int) (m : Nat), m = i + us.length ∧ m ≤ xs.length ∧ si = .int .i64 m ∧ Nb.Ok us ∧ P * Nb.val us = Nb.vt D us.length - r0 + (Nt.lb D us.length % P) * Nb.pw us.length ∧
          wr'.ownsRow wo.heap.size 3 1 out us.length (us.map (Value.int .i64)) ∧ Below wo.heap.size wo wr') (fun _ si _ => xs.length - (intOf si).toNat)
      case atStart => exact ⟨[], i, by simp, by omega, rfl, Nb.ok_nil, by
        simp only [List.length_nil, Nb.val, Nb.vt, Nb.pw]
        rw [HDlb.out 0, Nat.add_zero, HR.out]; omega, by simpa using World.ownsRow_nil wo wo.heap.size 3 1, Below.refl _ _⟩
      case round =>
        obtain ⟨us, m, hme, hul, rfl, huo, heq, hown, hbr2⟩ := hrel
        have Heq := hide heq
        clear heq
        obtain ⟨j, hj⟩ : ∃ j, us.length = j := ⟨_, rfl⟩
        rw [hj] at hown hme
        have Hj := hide hj
        have Hm := hide hme
        have hjm : j ≤ m := by omega
        clear hj hme
        have hsz := hbr2.size
        have hcx := (hxc.below hbr).below hbr2
        by_cases h1 : m < xs.length
        · have h1' : (m : Int) < (xs.length : Int) := by omega
          obtain ⟨_, _, he, _, hcc⟩ := hcx (by omega)
          cases he
          have gj := hcc m h1
          obtain ⟨bj0, bj1⟩ := hx.1 m
          obtain ⟨be0, be1⟩ := hx.1 (m + 1)
          have hxmx : xs.length ≤ maxLen := by omega
          obtain ⟨⟨u0, u1⟩, hu⟩ := cut_byte (d := Nt.lb xs m) (e := Nt.lb xs (m + 1)) hP0 hR0 HPR.out ⟨bj0, bj1⟩
          have hstep := cut_step (D := D) (us := us) (P := P) (r0 := r0) (u := (Nt.lb xs m + 256 * Nt.lb xs (m + 1)) / P % 256) (by rw [Hj.out, HDlb.out, HDlb.out, ← Nat.add_assoc, ← Hm.out]; exact hu) Heq.out
          rw [Hj.out] at hstep
          have Hstep := hide hstep
          have q0 : 0 ≤ (Nt.lb xs m + 256 * Nt.lb xs (m + 1)) / P := Int.ediv_nonneg (by omega) (by omega)
          have hown2 : wr.drew.ownsRow wo.heap.size 3 1 _ j (us.map (Value.int .i64)) := hown
          have hjw : IntKind.i64.wrap ((m : Int) + 1) = (m : Int) + 1 := by rw [IntKind.wrap_i64]; omega
          have hbw : b1 < wr.heap.size := by have := hbr.size; omega
          have av : Value.ownBlock _ ≠ some b1 := fun e => by have h2 := (hown.lt _ e).1; have := hbr.size; omega
          have hm0 : (0 : Int) ≤ (m : Int) := by omega
          have hrt : (N : Int).tmod 8 = (s : Int) := by rw [Int.tmod_eq_emod_of_nonneg (by omega)]; exact hr
          have ht1 : (Nt.lb xs m + 256 * Nt.lb xs (m + 1)).tdiv P = (Nt.lb xs m + 256 * Nt.lb xs (m + 1)) / P := Int.tdiv_eq_ediv_of_nonneg (by omega)
          have ht2 : ((Nt.lb xs m + 256 * Nt.lb xs (m + 1)) / P).tmod 256 = (Nt.lb xs m + 256 * Nt.lb xs (m + 1)) / P % 256 := Int.tmod_eq_emod_of_nonneg q0
          have q2 : (Nt.lb xs m + 256 * Nt.lb xs (m + 1)) / P ≤ 65535 := by
            have := Int.ediv_le_self (a := Nt.lb xs m + 256 * Nt.lb xs (m + 1)) P (by omega)
            omega
          have hw3 : IntKind.i64.wrap ((Nt.lb xs m + 256 * Nt.lb xs (m + 1)) / P) = (Nt.lb xs m + 256 * Nt.lb xs (m + 1)) / P := by rw [IntKind.wrap_i64]; omega
          have hPz : (P == 0) = false := by simp; omega
          have hPz2 : ¬ P = 0 := by omega
          have hY : (IntKind.i64.wrap ((IntKind.i64.wrap (Nt.lb xs m + IntKind.i64.wrap (256 * Nt.lb xs (m + 1)))).tdiv P)).tmod 256 = (Nt.lb xs m + 256 * Nt.lb xs (m + 1)) / P % 256 := by
            rw [show IntKind.i64.wrap (256 * Nt.lb xs (m + 1)) = 256 * Nt.lb xs (m + 1) by rw [IntKind.wrap_i64]; omega, show IntKind.i64.wrap (Nt.lb xs m + 256 * Nt.lb xs (m + 1)) = Nt.lb xs m + 256 * Nt.lb xs (m + 1) by rw [IntKind.wrap_i64]; omega, ht1, hw3, ht2]
          have HY := hide hY
          clear hu hstep hcc ht1 ht2 hw3 hY
          go_wp2
          go_region_held3 (fun w' => w'.cell? ⟨b1, o1 + m, none⟩ = some (.int .i64 (Nt.lb xs m)))
            (first
              | go_keep
              | exact (hgrow.cell_far _ (by simp; omega) (Ne.symm av)).trans ((((Below.refl wr.heap.size wr).drew.alloc (Nat.le_refl _) _).cell (p := ⟨b1, o1 + m, none⟩) hbw).trans gj))
            (first
              | (go_at_call 120; refine (power_told s hs HP.out _).mono ?_; rintro e w3 ⟨rfl, rfl⟩)
              | (go_at_call 159; refine (at_int _ _ xs _ (m + 1) (by omega) _ hxmx (by exact hcx)).mono ?_; rintro e w3 ⟨rfl, rfl⟩)
              | ((refine step_append_cells rfl (.tmp 56) (.tmp 72) 99 rfl wo.heap.size 3 .i64 8 Tryz.underlying99 Tryz.infoI64 _ j us (by rfl) (hown2.alloc _) ⟨wr.heap.size, 0, none⟩ 1 _ (by rfl) (cells_one_drew _ _ _ _) (by unfold maxLen; omega) (by omega) (by simp; omega) ?_; intro v' w4 hown' hgrow; rw [HY.out] at hown')))
          have hb4 : Below wo.heap.size wo w4 := below_own (hbr2.drew.alloc hsz _) (by simp; omega) (hown2.alloc _) hgrow
          have Hown' := hide hown'
          clear hown' hgrow hown hown2
          go_wp2
          go_roundw
          case rel => exact ⟨us ++ [(Nt.lb xs m + 256 * Nt.lb xs (m + 1)) / P % 256], m + 1, by rw [List.length_append, List.length_singleton, Hj.out, Hm.out]; omega, by omega, by go_num, Nb.ok_snoc huo ⟨u0, u1⟩, by
            rw [List.length_append, List.length_singleton, Hj.out]; exact Hstep.out, by simpa [Hj.out] using Hown'.out, hb4⟩
          case measure => simp [intOf]; omega
        · have Hme := hide (show m = xs.length by omega)
          have hc1' : ¬ (m : Int) < (xs.length : Int) := by omega
          have hfin : Nb.val xs / p2 N = Nb.val us ∧ (0 < Nb.val xs % p2 N ↔ 0 < r0 + Nb.vt xs i) := by
            have h1 := Heq.out
            have hjD : j = D.length := by rw [HDl.out]; have := Hm.out; have := Hme.out; omega
            have hl0 : Nt.lb D j = 0 := by rw [HDlb.out, ← Hm.out, Hme.out]; simp [Nt.lb]
            rw [Hj.out, hl0, Int.zero_emod, Int.zero_mul, hjD] at h1
            have hv := HDv.out
            have e : Nb.val D = P * Nb.val us + r0 := by unfold Nb.val at h1 ⊢; omega
            rw [e] at hv
            rw [HN.out, p2_add, p2_8, HP.out]
            exact cut_end (Nb.pw_pos i) (Nb.vt_bounds hx.1 i).1 (Nb.vt_bounds hx.1 i).2 hr00 hr01 hv
          have hbd : b = decide (0 < Nb.val xs % p2 N) := by
            rw [Bool.eq_iff_iff, decide_eq_true_eq, hfin.2]; exact Hb.out
          have hrd := reads_of_owns (n := j) hown
          have hla := limbs_any (ka := j) ⟨_, hrd, huo, rfl, by simp [Hj.out]⟩ (by omega)
          rw [← hfin.1] at hla
          have Hla := hide hla
          have Hbd := hide hbd
          clear hown hfin hrd hla hbd
          go_wp2_with fail
          refine Calls.mono Hla.out ?_
          rintro e w5 ⟨v, rfl, hv, hb5⟩
          go_wp2
          go_ret3
          rw [Hbd.out]
          exact ⟨v, rfl, (num_since hv (by have := hbr.size; omega)).mono (by have := Hm.out; omega), below_trans hb1 (below_trans hbr (below_trans hbr2 hb5))⟩

end Go.Proofs.YtinfkoiifemjmaaGreatDoor
