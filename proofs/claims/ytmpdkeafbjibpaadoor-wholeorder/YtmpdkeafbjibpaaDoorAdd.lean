/- nat.Add -/
import Derived.Test.YtmpdkeafbjibpaaDoorLimb
namespace Go.Proofs.YtmpdkeafbjibpaaDoor
open Go.RowKit

/-- one round of a sum -/
theorem add_step {xs ys zs : List Int} {k : Nat} {c : Int} (hk : k < zs.length)
    (h : Nt.vt zs k + c * Nt.pw k = Nt.vt xs k + Nt.vt ys k) :
    Nt.vt (zs.set k ((Nt.lb xs k + Nt.lb ys k + c) % 4294967296)) (k + 1) + (Nt.lb xs k + Nt.lb ys k + c) / 4294967296 * Nt.pw (k + 1) = Nt.vt xs (k + 1) + Nt.vt ys (k + 1) := by
  rw [Nt.vt_succ, Nt.vt_set (Nat.le_refl _), Nt.lb_set_eq hk, Nt.vt_succ, Nt.vt_succ, Nt.pw_succ]
  have e : (Nt.lb xs k + Nt.lb ys k + c) % 4294967296 + 4294967296 * ((Nt.lb xs k + Nt.lb ys k + c) / 4294967296) = Nt.lb xs k + Nt.lb ys k + c := Int.emod_add_mul_ediv _ _
  generalize (Nt.lb xs k + Nt.lb ys k + c) % 4294967296 = r at *
  generalize (Nt.lb xs k + Nt.lb ys k + c) / 4294967296 = q at *
  have e2 : (r + 4294967296 * q) * Nt.pw k = (Nt.lb xs k + Nt.lb ys k + c) * Nt.pw k := by rw [e]
  rw [Int.add_mul, Int.add_mul, Int.add_mul, Int.mul_assoc] at e2
  rw [Int.mul_left_comm q]
  generalize r * Nt.pw k = a1 at *
  generalize Nt.lb xs k * Nt.pw k = a2 at *
  generalize Nt.lb ys k * Nt.pw k = a3 at *
  generalize c * Nt.pw k = a4 at *
  generalize q * Nt.pw k = a5 at *
  omega

set_option maxHeartbeats 1000000 in
theorem add_any {w : World} {va vb : Value} {n m : Int} {ka kb : Nat} (ha : Arg w va n ka) (hb : Arg w vb m kb) (hka : ka ≤ 1099511627776) (hkb : kb ≤ 1099511627776) :
    Calls Tryd.prog 40 #[va, vb] w fun e w' => ∃ v, e = .returned v ∧ Num w.heap.size w' v (n + m) (max ka kb + 1) ∧ Below w.heap.size w w' := by
  go_enter Tryd.func40, Tryd.ntmps40
  go_wp2_with fail
  refine (trim_arg ha).mono ?_
  rintro e w' ⟨rfl, ao, xs, rfl, hxk, hxm, hxc, hx, rfl⟩
  go_wp2_with fail
  refine (trim_arg hb).mono ?_
  rintro e w' ⟨rfl, bo, ys, rfl, hyk, hym, hyc, hy, rfl⟩
  clear ha hb
  by_cases hlt : xs.length < ys.length
  · skip
    go_wp2_with (at_make; refine wpList_make_row _ rfl _ _ 23 rfl 59 .u32 4 Tryd.underlying23 Tryd.infoU32 _ _ _ _ (ys.length + 1) (ys.length + 1) rfl rfl (by omega) (by omega) (Nat.le_refl _) (by omega) (by unfold maxLen; omega) ?_)
    intro w1 hr hbel hsz
    go_wp2
    go_loopw [7, 22] (fun c i wr => ∃ (k : Nat) (q : Int) (zs : List Int), k ≤ ys.length ∧ i = .int .i64 k ∧ c = .int .u32 q ∧ 0 ≤ q ∧ q ≤ 1 ∧ zs.length = ys.length + 1 ∧ Nt.Ok zs ∧ Row .u32 59 wr w'.heap.size zs ∧ Below w'.heap.size w' wr ∧ Nt.vt zs k + q * Nt.pw k = Nt.vt xs k + Nt.vt ys k) (fun _ i _ => ys.length - (intOf i).toNat)
    case atStart => exact ⟨0, 0, List.replicate (ys.length + 1) 0, by omega, rfl, rfl, by omega, by omega, by simp, Nt.ok_replicate _, hr, hbel, by simp [Nt.vt]⟩
    case round =>
      obtain ⟨k, q, zs, hk, rfl, rfl, hq0, hq1, hzl, hzo, hrow, hbr, heq⟩ := hrel
      have Heq : Hid (Nt.vt zs k + q * Nt.pw k = Nt.vt xs k + Nt.vt ys k) := heq
      have Hzl : Hid (zs.length = ys.length + 1) := hzl
      have hcx : Cells .u32 wr ao xs := hxc.below hbr
      have hcy : Cells .u32 wr bo ys := hyc.below hbr
      clear heq hzl
      by_cases hkl : k < ys.length
      · have bx := hx.1 k
        have by' := hy.1 k
        have hfz := hrow.frozen k
        have hcl := hrow.cell (i := k) (by have := Hzl.out; omega)
        go_wp2_with fail
        refine (limb_any ao xs.length xs k wr hxm hcx).mono ?_
        rintro e w2 ⟨rfl, rfl⟩
        go_wp2_with fail
        refine (limb_any bo ys.length ys k _ hym hcy).mono ?_
        rintro e w2 ⟨rfl, rfl⟩
        go_wp2_with fail
        refine (add32_any _ _ _ _ bx by' ⟨hq0, hq1⟩).mono ?_
        rintro e w3 ⟨rfl, rfl⟩
        go_wp2
        go_roundw
        case rel => exact ⟨k + 1, (Nt.lb xs k + Nt.lb ys k + q) / 4294967296, zs.set k ((Nt.lb xs k + Nt.lb ys k + q) % 4294967296), by omega, by go_num, rfl, by omega, by omega, by have := Hzl.out; simp [this], Nt.ok_set hzo (by omega), hrow.set _ _, hbr.setCell (Nat.le_refl _) _, add_step (by have := Hzl.out; omega) Heq.out⟩
        case measure => simp [intOf]; omega
      · have hke : k = ys.length := by omega
        have hfz := hrow.frozen ys.length
        have hcl := hrow.cell (i := ys.length) (by have := Hzl.out; omega)
        subst hke
        go_wp2_with fail
        have hz2 : zs.length = ys.length + 1 := Hzl.out
        have hr2 := hrow.set ys.length q
        have hl2 : (zs.set ys.length q).length = ys.length + 1 := by simp [hz2]
        have ht := trim_row (B := w'.heap.size) (cap := (zs.set ys.length q).length) hr2 (Nat.le_refl _) (Nat.le_refl _) (by rw [hl2]; unfold maxLen; omega) (Nt.ok_set hzo (by omega))
        rw [hl2] at ht
        refine ht.mono ?_
        rintro e w2 ⟨rfl, v, rfl, hnum⟩
        go_wp2
        go_ret
        refine ⟨_, rfl, ?_, hbr.setCell (Nat.le_refl _) _⟩
        have hfin : Nt.val (zs.set ys.length q) = Nt.val xs + Nt.val ys := by
          have h1 := Heq.out
          rw [Nt.vt_out (xs := xs) (by omega), Nt.vt_out (xs := ys) (by omega)] at h1
          unfold Nt.val at h1 ⊢
          rw [hl2, Nt.vt_succ, Nt.vt_set (Nat.le_refl _), Nt.lb_set_eq (by omega)]
          exact h1
        rw [hfin] at hnum
        exact hnum.mono (by omega)
  · skip
    go_wp2_with (at_make; refine wpList_make_row _ rfl _ _ 23 rfl 59 .u32 4 Tryd.underlying23 Tryd.infoU32 _ _ _ _ (xs.length + 1) (xs.length + 1) rfl rfl (by omega) (by omega) (Nat.le_refl _) (by omega) (by unfold maxLen; omega) ?_)
    intro w1 hr hbel hsz
    go_wp2
    go_loopw [7, 22] (fun c i wr => ∃ (k : Nat) (q : Int) (zs : List Int), k ≤ xs.length ∧ i = .int .i64 k ∧ c = .int .u32 q ∧ 0 ≤ q ∧ q ≤ 1 ∧ zs.length = xs.length + 1 ∧ Nt.Ok zs ∧ Row .u32 59 wr w'.heap.size zs ∧ Below w'.heap.size w' wr ∧ Nt.vt zs k + q * Nt.pw k = Nt.vt xs k + Nt.vt ys k) (fun _ i _ => xs.length - (intOf i).toNat)
    case atStart => exact ⟨0, 0, List.replicate (xs.length + 1) 0, by omega, rfl, rfl, by omega, by omega, by simp, Nt.ok_replicate _, hr, hbel, by simp [Nt.vt]⟩
    case round =>
      obtain ⟨k, q, zs, hk, rfl, rfl, hq0, hq1, hzl, hzo, hrow, hbr, heq⟩ := hrel
      have Heq : Hid (Nt.vt zs k + q * Nt.pw k = Nt.vt xs k + Nt.vt ys k) := heq
      have Hzl : Hid (zs.length = xs.length + 1) := hzl
      have hcx : Cells .u32 wr ao xs := hxc.below hbr
      have hcy : Cells .u32 wr bo ys := hyc.below hbr
      clear heq hzl
      by_cases hkl : k < xs.length
      · have bx := hx.1 k
        have by' := hy.1 k
        have hfz := hrow.frozen k
        have hcl := hrow.cell (i := k) (by have := Hzl.out; omega)
        go_wp2_with fail
        refine (limb_any ao xs.length xs k wr hxm hcx).mono ?_
        rintro e w2 ⟨rfl, rfl⟩
        go_wp2_with fail
        refine (limb_any bo ys.length ys k _ hym hcy).mono ?_
        rintro e w2 ⟨rfl, rfl⟩
        go_wp2_with fail
        refine (add32_any _ _ _ _ bx by' ⟨hq0, hq1⟩).mono ?_
        rintro e w3 ⟨rfl, rfl⟩
        go_wp2
        go_roundw
        case rel => exact ⟨k + 1, (Nt.lb xs k + Nt.lb ys k + q) / 4294967296, zs.set k ((Nt.lb xs k + Nt.lb ys k + q) % 4294967296), by omega, by go_num, rfl, by omega, by omega, by have := Hzl.out; simp [this], Nt.ok_set hzo (by omega), hrow.set _ _, hbr.setCell (Nat.le_refl _) _, add_step (by have := Hzl.out; omega) Heq.out⟩
        case measure => simp [intOf]; omega
      · have hke : k = xs.length := by omega
        have hfz := hrow.frozen xs.length
        have hcl := hrow.cell (i := xs.length) (by have := Hzl.out; omega)
        subst hke
        go_wp2_with fail
        have hz2 : zs.length = xs.length + 1 := Hzl.out
        have hr2 := hrow.set xs.length q
        have hl2 : (zs.set xs.length q).length = xs.length + 1 := by simp [hz2]
        have ht := trim_row (B := w'.heap.size) (cap := (zs.set xs.length q).length) hr2 (Nat.le_refl _) (Nat.le_refl _) (by rw [hl2]; unfold maxLen; omega) (Nt.ok_set hzo (by omega))
        rw [hl2] at ht
        refine ht.mono ?_
        rintro e w2 ⟨rfl, v, rfl, hnum⟩
        go_wp2
        go_ret
        refine ⟨_, rfl, ?_, hbr.setCell (Nat.le_refl _) _⟩
        have hfin : Nt.val (zs.set xs.length q) = Nt.val xs + Nt.val ys := by
          have h1 := Heq.out
          rw [Nt.vt_out (xs := xs) (by omega), Nt.vt_out (xs := ys) (by omega)] at h1
          unfold Nt.val at h1 ⊢
          rw [hl2, Nt.vt_succ, Nt.vt_set (Nat.le_refl _), Nt.lb_set_eq (by omega)]
          exact h1
        rw [hfin] at hnum
        exact hnum.mono (by omega)

end Go.Proofs.YtmpdkeafbjibpaaDoor
