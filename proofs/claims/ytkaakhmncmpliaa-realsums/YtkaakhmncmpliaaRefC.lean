/- crucibleref01: Add, Sub, Small -/
import Derived.Test.YtkaakhmncmpliaaRefB
import Derived.Deep.RegionWith
namespace Go.Proofs.Ytkaakhmncmpliaa
open Go.RowKit

/-- one round of a sum, bytes -/
theorem badd_step {xs ys zs : List Int} {c : Int} (h : Nb.val zs + c * Nb.pw zs.length = Nb.vt xs zs.length + Nb.vt ys zs.length) :
    Nb.val (zs ++ [(Nt.lb xs zs.length + Nt.lb ys zs.length + c) % 256]) + (Nt.lb xs zs.length + Nt.lb ys zs.length + c) / 256 * Nb.pw (zs.length + 1) = Nb.vt xs (zs.length + 1) + Nb.vt ys (zs.length + 1) := by
  rw [Nb.val_snoc, Nb.pw_succ, byte_step, Nb.vt_succ, Nb.vt_succ, Int.add_mul, Int.add_mul]
  omega

set_option maxHeartbeats 4000000 in
theorem radd_any {w : World} {va vb : Value} {n m : Int} {ka kb : Nat} (ha : Arg w va n ka) (hb : Arg w vb m kb) (hka : ka ≤ 1099511627776) (hkb : kb ≤ 1099511627776) :
    Calls Try.prog 59 #[va, vb] w fun e w' => ∃ v, e = .returned v ∧ Num w.heap.size w' v (n + m) (ka + kb + 1) ∧ Below w.heap.size w w' := by
  go_enter Try.func59, Try.ntmps59
  go_wp2_with fail
  refine (bytes_any ha hka).mono ?_
  rintro e w1 ⟨v1, rfl, ⟨xs, ⟨ao, ca, rfl, hxl, hxm, hxc⟩, hx, rfl, hxk⟩, hb1⟩
  go_wp2_with fail
  refine (bytes_any (hb.below hb1) hkb).mono ?_
  rintro e w2 ⟨v2, rfl, ⟨ys, ⟨bo, cb, rfl, hyl, hym, hyc⟩, hy, rfl, hyk⟩, hb2⟩
  replace hxc := hxc.below hb2
  have hbb := below_trans hb1 hb2
  clear ha hb hb1 hb2
  have hxmx : xs.length ≤ maxLen := by omega
  have hymx : ys.length ≤ maxLen := by omega
  go_wp2
  go_loopw [7, 8, 9] (fun out sc si wr => ∃ (q : Int) (zs : List Int), si = .int .i64 zs.length ∧ sc = .int .i64 q ∧ 0 ≤ q ∧ q ≤ 1 ∧ zs.length ≤ max xs.length ys.length + 1 ∧ (max xs.length ys.length < zs.length → q = 0) ∧ Nb.Ok zs ∧ Nb.val zs + q * Nb.pw zs.length = Nb.vt xs zs.length + Nb.vt ys zs.length ∧
      wr.ownsRow w2.heap.size 3 1 out zs.length (zs.map (Value.int .i64)) ∧ Below w2.heap.size w2 wr) (fun _ _ si _ => max xs.length ys.length + 1 - (intOf si).toNat)
  case atStart => exact ⟨0, [], rfl, rfl, by omega, by omega, by simp, fun h => by simp at h, Nb.ok_nil, by simp [Nb.val, Nb.vt], by simpa using World.ownsRow_nil w2 w2.heap.size 3 1, Below.refl _ _⟩
  case round =>
    obtain ⟨q, zs, rfl, rfl, hq0, hq1, hzl, hqz, hzo, heq, hown, hbr⟩ := hrel
    have Heq := hide heq
    have Hqz := hide hqz
    clear heq hqz
    have hcx := hxc.below hbr
    have hcy := hyc.below hbr
    obtain ⟨k, hk⟩ : ∃ k, zs.length = k := ⟨_, rfl⟩
    have bx := hx.1 k
    have by' := hy.1 k
    obtain ⟨bx0, bx1⟩ := bx
    obtain ⟨by0, by1⟩ := by'
    have hsz := hbr.size
    have hst := badd_step Heq.out
    rw [hk] at hown hzl hst ⊢
    have Hst := hide hst
    have Hk := hide hk
    clear hst hk
    have hkb' : k ≤ 8796093022209 := by omega
    by_cases h1 : k < xs.length
    · have hc1 : (k : Int) < (xs.length : Int) := by omega
      go_wp2_with fail
      refine (at_any ao ca xs k _ hxmx hcx).mono ?_
      rintro e w3 ⟨rfl, rfl⟩
      go_wp2_with fail
      refine (at_any bo cb ys k _ hymx hcy).mono ?_
      rintro e w3 ⟨rfl, rfl⟩
      go_wp2_with (at_builtin; refine wpList_append_cells _ rfl _ _ 101 rfl w2.heap.size 3 .i64 8 Try.underlying101 Try.infoI64 _ k zs rfl (hown.alloc _) _ 1 [(Nt.lb xs k + Nt.lb ys k + q) % 256] rfl (cells_one _ _ _ _) (by unfold maxLen; simp; omega) (by simp; omega) (by simp; omega) ?_)
      intro v' w4 hown' hgrow
      have hb4 : Below w2.heap.size w2 w4 := below_own (hbr.alloc hsz _) (by simp; omega) (hown.alloc _) hgrow
      have Hown' := hide hown'
      clear hown' hgrow hown hcx hcy
      go_wp2
      go_roundw
      case rel => exact ⟨(Nt.lb xs k + Nt.lb ys k + q) / 256, zs ++ [(Nt.lb xs k + Nt.lb ys k + q) % 256], by rw [List.length_append, List.length_singleton, Hk.out]; go_num, rfl, by omega, by omega, by rw [List.length_append, List.length_singleton, Hk.out]; omega, fun h => by
        rw [List.length_append, List.length_singleton, Hk.out] at h
        have e1 : Nt.lb xs k = 0 := Nt.lb_out (by omega)
        have e2 : Nt.lb ys k = 0 := Nt.lb_out (by omega)
        rw [e1, e2]; omega, Nb.ok_snoc hzo (by omega), by rw [List.length_append, List.length_singleton, Hk.out]; exact Hst.out, by simpa [Hk.out] using Hown'.out, hb4⟩
      case measure => simp [intOf]; omega
    by_cases h2 : k < ys.length
    · have hc1 : ¬ (k : Int) < (xs.length : Int) := by omega
      have hc2 : (k : Int) < (ys.length : Int) := by omega
      go_wp2_with fail
      refine (at_any ao ca xs k _ hxmx hcx).mono ?_
      rintro e w3 ⟨rfl, rfl⟩
      go_wp2_with fail
      refine (at_any bo cb ys k _ hymx hcy).mono ?_
      rintro e w3 ⟨rfl, rfl⟩
      go_wp2_with (at_builtin; refine wpList_append_cells _ rfl _ _ 101 rfl w2.heap.size 3 .i64 8 Try.underlying101 Try.infoI64 _ k zs rfl (hown.alloc _) _ 1 [(Nt.lb xs k + Nt.lb ys k + q) % 256] rfl (cells_one _ _ _ _) (by unfold maxLen; simp; omega) (by simp; omega) (by simp; omega) ?_)
      intro v' w4 hown' hgrow
      have hb4 : Below w2.heap.size w2 w4 := below_own (hbr.alloc hsz _) (by simp; omega) (hown.alloc _) hgrow
      have Hown' := hide hown'
      clear hown' hgrow hown hcx hcy
      go_wp2
      go_roundw
      case rel => exact ⟨(Nt.lb xs k + Nt.lb ys k + q) / 256, zs ++ [(Nt.lb xs k + Nt.lb ys k + q) % 256], by rw [List.length_append, List.length_singleton, Hk.out]; go_num, rfl, by omega, by omega, by rw [List.length_append, List.length_singleton, Hk.out]; omega, fun h => by
        rw [List.length_append, List.length_singleton, Hk.out] at h
        have e1 : Nt.lb xs k = 0 := Nt.lb_out (by omega)
        have e2 : Nt.lb ys k = 0 := Nt.lb_out (by omega)
        rw [e1, e2]; omega, Nb.ok_snoc hzo (by omega), by rw [List.length_append, List.length_singleton, Hk.out]; exact Hst.out, by simpa [Hk.out] using Hown'.out, hb4⟩
      case measure => simp [intOf]; omega
    by_cases h3 : 0 < q
    · have hc1 : ¬ (k : Int) < (xs.length : Int) := by omega
      have hc2 : ¬ (k : Int) < (ys.length : Int) := by omega
      have hkm : k ≤ max xs.length ys.length := by
        by_cases h : max xs.length ys.length < k
        · have := Hqz.out (by rw [Hk.out]; exact h); omega
        · omega
      go_wp2_with fail
      refine (at_any ao ca xs k _ hxmx hcx).mono ?_
      rintro e w3 ⟨rfl, rfl⟩
      go_wp2_with fail
      refine (at_any bo cb ys k _ hymx hcy).mono ?_
      rintro e w3 ⟨rfl, rfl⟩
      go_wp2_with (at_builtin; refine wpList_append_cells _ rfl _ _ 101 rfl w2.heap.size 3 .i64 8 Try.underlying101 Try.infoI64 _ k zs rfl (hown.alloc _) _ 1 [(Nt.lb xs k + Nt.lb ys k + q) % 256] rfl (cells_one _ _ _ _) (by unfold maxLen; simp; omega) (by simp; omega) (by simp; omega) ?_)
      intro v' w4 hown' hgrow
      have hb4 : Below w2.heap.size w2 w4 := below_own (hbr.alloc hsz _) (by simp; omega) (hown.alloc _) hgrow
      have Hown' := hide hown'
      clear hown' hgrow hown hcx hcy
      go_wp2
      go_roundw
      case rel => exact ⟨(Nt.lb xs k + Nt.lb ys k + q) / 256, zs ++ [(Nt.lb xs k + Nt.lb ys k + q) % 256], by rw [List.length_append, List.length_singleton, Hk.out]; go_num, rfl, by omega, by omega, by rw [List.length_append, List.length_singleton, Hk.out]; omega, fun h => by
        rw [List.length_append, List.length_singleton, Hk.out] at h
        have e1 : Nt.lb xs k = 0 := Nt.lb_out (by omega)
        have e2 : Nt.lb ys k = 0 := Nt.lb_out (by omega)
        rw [e1, e2]; omega, Nb.ok_snoc hzo (by omega), by rw [List.length_append, List.length_singleton, Hk.out]; exact Hst.out, by simpa [Hk.out] using Hown'.out, hb4⟩
      case measure => simp [intOf]; omega
    · have hc1 : ¬ (k : Int) < (xs.length : Int) := by omega
      have hc2 : ¬ (k : Int) < (ys.length : Int) := by omega
      have hc3 : ¬ 0 < q := by omega
      have hq00 : q = 0 := by omega
      have hfin : Nb.val zs = Nb.val xs + Nb.val ys := by
        have h := Heq.out
        rw [Hk.out, hq00, Int.zero_mul, Int.add_zero, Nb.vt_out (xs := xs) (by omega), Nb.vt_out (xs := ys) (by omega)] at h
        exact h
      have hrd : Reads .i64 wr _ zs := reads_of_owns hown
      have hla := limbs_any (ka := k) ⟨zs, hrd, hzo, rfl, by rw [Hk.out]; exact Nat.le_refl _⟩ (by omega)
      rw [hfin] at hla
      have Hla := hide hla
      clear hfin hrd hla hq00 hcx hcy
      go_wp2_with fail
      refine Calls.mono Hla.out ?_
      rintro e w5 ⟨v, rfl, hv, hb5⟩
      go_wp2
      go_ret
      exact ⟨v, rfl, (num_since hv (by have := hbb.size; have := hbr.size; omega)).mono (by omega), below_trans hbb (hbr.trans (hb5.mono hbr.size))⟩

/-- one round of a difference, bytes -/
theorem bsub_step {xs ys zs : List Int} {c D c' : Int} (hD : D - c' * 256 = Nt.lb xs zs.length - Nt.lb ys zs.length - c) (h : Nb.val zs - c * Nb.pw zs.length = Nb.vt xs zs.length - Nb.vt ys zs.length) :
    Nb.val (zs ++ [D]) - c' * Nb.pw (zs.length + 1) = Nb.vt xs (zs.length + 1) - Nb.vt ys (zs.length + 1) := by
  rw [Nb.val_snoc, Nb.pw_succ, Nb.vt_succ, Nb.vt_succ]
  have e2 : (D - c' * 256) * Nb.pw zs.length = (Nt.lb xs zs.length - Nt.lb ys zs.length - c) * Nb.pw zs.length := by rw [hD]
  rw [Int.sub_mul, Int.sub_mul, Int.sub_mul, Int.mul_assoc] at e2
  omega

set_option maxHeartbeats 1000000 in
theorem rsub_no {w : World} {va vb : Value} {n m : Int} {ka kb : Nat} (ha : Arg w va n ka) (hb : Arg w vb m kb) (hka : ka ≤ 1099511627776) (hkb : kb ≤ 1099511627776) (hlt : n < m) :
    Calls Try.prog 60 #[va, vb] w fun e w' => e = .returned (.tuple #[.slice none 0 0, .bool false]) ∧ Below w.heap.size w w' := by
  have c := rcmp_any ha hb hka hkb
  rw [sgn_lt hlt] at c
  have C := hide c
  clear c
  go_enter Try.func60, Try.ntmps60
  go_wp2_with fail
  refine Calls.mono C.out ?_
  rintro e w2 ⟨rfl, hbel⟩
  go_wp2
  go_ret2
  exact ⟨rfl, hbel⟩

set_option maxHeartbeats 4000000 in
theorem rsub_yes {w : World} {va vb : Value} {n m : Int} {ka kb : Nat} (ha : Arg w va n ka) (hb : Arg w vb m kb) (hka : ka ≤ 1099511627776) (hkb : kb ≤ 1099511627776) (hge : m ≤ n) :
    Calls Try.prog 60 #[va, vb] w fun e w' => ∃ v, e = .returned (.tuple #[v, .bool true]) ∧ Num w.heap.size w' v (n - m) ka ∧ Below w.heap.size w w' := by
  have hs : 0 ≤ sgn n m := by unfold sgn; rw [if_neg (by omega)]; split <;> omega
  go_enter Try.func60, Try.ntmps60
  go_wp2_with fail
  refine (rcmp_any ha hb hka hkb).mono ?_
  rintro e w0 ⟨rfl, hb0⟩
  go_wp2_with fail
  refine (bytes_any (ha.below hb0) hka).mono ?_
  rintro e w1 ⟨v1, rfl, ⟨xs, ⟨ao, ca, rfl, hxl, hxm, hxc⟩, hx, rfl, hxk⟩, hb1⟩
  go_wp2_with fail
  refine (bytes_any ((hb.below hb0).below hb1) hkb).mono ?_
  rintro e w2 ⟨v2, rfl, ⟨ys, ⟨bo, cb, rfl, hyl, hym, hyc⟩, hy, rfl, hyk⟩, hb2⟩
  replace hxc := hxc.below hb2
  have hbb := below_trans (below_trans hb0 hb1) hb2
  have hll : ys.length ≤ xs.length := by
    by_cases h : xs.length < ys.length
    · have := Nb.canon_lt hx.1 hy h; omega
    · omega
  have Hge := hide hge
  clear ha hb hb0 hb1 hb2 hge hs
  have hymx : ys.length ≤ maxLen := by omega
  go_wp2
  go_loopw [8, 9, 10] (fun out sc si wr => ∃ (q : Int) (zs : List Int), si = .int .i64 zs.length ∧ sc = .int .i64 q ∧ 0 ≤ q ∧ q ≤ 1 ∧ zs.length ≤ xs.length ∧ Nb.Ok zs ∧ Nb.val zs - q * Nb.pw zs.length = Nb.vt xs zs.length - Nb.vt ys zs.length ∧
      wr.ownsRow w2.heap.size 3 1 out zs.length (zs.map (Value.int .i64)) ∧ Below w2.heap.size w2 wr) (fun _ _ si _ => xs.length - (intOf si).toNat)
  case atStart => exact ⟨0, [], rfl, rfl, by omega, by omega, by simp, Nb.ok_nil, by simp [Nb.val, Nb.vt], by simpa using World.ownsRow_nil w2 w2.heap.size 3 1, Below.refl _ _⟩
  case round =>
    obtain ⟨q, zs, rfl, rfl, hq0, hq1, hzl, hzo, heq, hown, hbr⟩ := hrel
    have Heq := hide heq
    clear heq
    have hcy := hyc.below hbr
    obtain ⟨k, hk⟩ : ∃ k, zs.length = k := ⟨_, rfl⟩
    obtain ⟨bx0, bx1⟩ := hx.1 k
    obtain ⟨by0, by1⟩ := hy.1 k
    have hsz := hbr.size
    have hst := fun D c' => bsub_step (xs := xs) (ys := ys) (zs := zs) (c := q) (D := D) (c' := c')
    rw [hk] at hown hzl hst ⊢
    have Hst := hide hst
    have Hk := hide hk
    clear hst hk
    have hkb' : k ≤ 8796093022209 := by omega
    by_cases h1 : k < xs.length
    · have hc1 : (k : Int) < (xs.length : Int) := by omega
      obtain ⟨b1, o1, rfl, _, hcc⟩ := (hxc.below hbr) (by omega)
      have g1 := hcc k h1
      clear hcc hxc
      have hown2 : wr.drew.ownsRow w2.heap.size 3 1 _ k (zs.map (Value.int .i64)) := hown
      by_cases hneg : Nt.lb xs k - Nt.lb ys k - q < 0
      · go_wp2
        go_region_with (go_at_call 70; refine (at_any bo cb ys k _ hymx (by exact hcy)).mono ?_; rintro e w3 ⟨rfl, rfl⟩)
        all_goals go_wp2_with (at_builtin; refine wpList_append_cells _ rfl _ _ 101 rfl w2.heap.size 3 .i64 8 Try.underlying101 Try.infoI64 _ k zs rfl (hown2.alloc _) (some ⟨wr.heap.size, 0, none⟩) 1 [Nt.lb xs k - Nt.lb ys k - q + 256] rfl (cells_one _ _ _ _) (by unfold maxLen; simp; omega) (by simp; omega) (by simp; omega) ?_)
        all_goals
          intro v' w4 hown' hgrow
          have hb4 : Below w2.heap.size w2 w4 := below_own ((hbr.drew).alloc hsz _) (by simp; omega) (hown2.alloc _) hgrow
          have Hown' := hide hown'
          clear hown' hgrow
          go_wp2
          go_roundw
        all_goals first
          | exact ⟨1, zs ++ [Nt.lb xs k - Nt.lb ys k - q + 256], by rw [List.length_append, List.length_singleton, Hk.out]; go_num, rfl, by omega, by omega, by rw [List.length_append, List.length_singleton, Hk.out]; omega, Nb.ok_snoc hzo (by omega), by
              rw [List.length_append, List.length_singleton, Hk.out]; exact Hst.out _ _ (by omega) (by have := Heq.out; rw [Hk.out] at this; exact this), by simpa [Hk.out] using Hown'.out, hb4⟩
          | (simp [intOf]; omega)
      · have hneg' : ¬ Nt.lb xs k - Nt.lb ys k - q < 0 := hneg
        go_wp2
        go_region_with (go_at_call 70; refine (at_any bo cb ys k _ hymx (by exact hcy)).mono ?_; rintro e w3 ⟨rfl, rfl⟩)
        all_goals go_wp2_with (at_builtin; refine wpList_append_cells _ rfl _ _ 101 rfl w2.heap.size 3 .i64 8 Try.underlying101 Try.infoI64 _ k zs rfl (hown2.alloc _) (some ⟨wr.heap.size, 0, none⟩) 1 [Nt.lb xs k - Nt.lb ys k - q] rfl (cells_one _ _ _ _) (by unfold maxLen; simp; omega) (by simp; omega) (by simp; omega) ?_)
        all_goals
          intro v' w4 hown' hgrow
          have hb4 : Below w2.heap.size w2 w4 := below_own ((hbr.drew).alloc hsz _) (by simp; omega) (hown2.alloc _) hgrow
          have Hown' := hide hown'
          clear hown' hgrow
          go_wp2
          go_roundw
        all_goals first
          | exact ⟨0, zs ++ [Nt.lb xs k - Nt.lb ys k - q], by rw [List.length_append, List.length_singleton, Hk.out]; go_num, rfl, by omega, by omega, by rw [List.length_append, List.length_singleton, Hk.out]; omega, Nb.ok_snoc hzo (by omega), by
              rw [List.length_append, List.length_singleton, Hk.out]; exact Hst.out _ _ (by omega) (by have := Heq.out; rw [Hk.out] at this; exact this), by simpa [Hk.out] using Hown'.out, hb4⟩
          | (simp [intOf]; omega)
    · have hc1 : ¬ (k : Int) < (xs.length : Int) := by omega
      have hke : k = xs.length := by omega
      have hfin : Nb.val zs = Nb.val xs - Nb.val ys := by
        have h := Heq.out
        rw [Hk.out, Nb.vt_out (xs := xs) (by omega), Nb.vt_out (xs := ys) (by omega)] at h
        have h2 := Hge.out
        have h3 := Nb.val_lt hzo
        rw [Hk.out] at h3
        have : q = 0 ∨ q = 1 := by omega
        rcases this with rfl | rfl
        · omega
        · omega
      have hrd : Reads .i64 wr _ zs := reads_of_owns hown
      have hla := limbs_any (ka := k) ⟨zs, hrd, hzo, rfl, by rw [Hk.out]; exact Nat.le_refl _⟩ (by omega)
      rw [hfin] at hla
      have Hla := hide hla
      clear hfin hrd hla hcy
      go_wp2_with fail
      refine Calls.mono Hla.out ?_
      rintro e w5 ⟨v, rfl, hv, hb5⟩
      go_wp2
      go_ret2
      exact ⟨v, rfl, (num_since hv (by have := hbb.size; have := hbr.size; omega)).mono (by omega), below_trans hbb (hbr.trans (hb5.mono hbr.size))⟩

theorem b_vt_set_add {zs : List Int} {i : Nat} (hi : i < zs.length) (h0 : Nt.lb zs i = 0) (q : Int) (n : Nat) (hn : i < n) : Nb.vt (zs.set i q) n = Nb.vt zs n + q * Nb.pw i := by
  induction n with
  | zero => omega
  | succ n ih =>
    rw [Nb.vt_succ, Nb.vt_succ]
    by_cases e : i = n
    · subst e; rw [Nb.vt_set (Nat.le_refl _), Nt.lb_set_eq hi, h0]; simp
    · rw [Nt.lb_set_ne e, ih (by omega)]; omega
theorem b_val_set_add {zs : List Int} {i : Nat} (hi : i < zs.length) (h0 : Nt.lb zs i = 0) (q : Int) : Nb.val (zs.set i q) = Nb.val zs + q * Nb.pw i := by
  unfold Nb.val
  rw [List.length_set]
  exact b_vt_set_add hi h0 q _ hi

theorem bsmall_step {xs zs : List Int} {m : Nat} {r d V : Int} (hm : m < zs.length) (h0 : Nt.lb zs m = 0) (h : V = Nb.vt xs (m + 1) + Nb.val zs * d + r * Nb.pw (m + 1)) :
    V = Nb.vt xs m + Nb.val (zs.set m ((r * 256 + Nt.lb xs m) / d)) * d + ((r * 256 + Nt.lb xs m) % d) * Nb.pw m := by
  rw [h, b_val_set_add hm h0, Nb.vt_succ, Nb.pw_succ]
  have e : (r * 256 + Nt.lb xs m) % d + d * ((r * 256 + Nt.lb xs m) / d) = r * 256 + Nt.lb xs m := Int.emod_add_mul_ediv _ _
  generalize (r * 256 + Nt.lb xs m) % d = s at *
  generalize (r * 256 + Nt.lb xs m) / d = q at *
  have e2 : (s + d * q) * Nb.pw m = (r * 256 + Nt.lb xs m) * Nb.pw m := by rw [e]
  rw [Int.add_mul, Int.add_mul] at e2
  rw [Int.add_mul, ← Int.mul_assoc r]
  have e3 : q * Nb.pw m * d = d * q * Nb.pw m := by rw [Int.mul_comm, ← Int.mul_assoc]
  rw [e3]
  omega

end Go.Proofs.Ytkaakhmncmpliaa
