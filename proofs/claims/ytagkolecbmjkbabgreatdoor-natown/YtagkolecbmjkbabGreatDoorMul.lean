/- nat.addTimes, nat.Mul -/
import Derived.Test.YtagkolecbmjkbabGreatDoorTrim
import Derived.Deep.RegionWith
namespace Go.Proofs.YtagkolecbmjkbabGreatDoor
open Go.RowKit

theorem prod_bd {x y : Int} (hx : 0 ≤ x ∧ x < 4294967296) (hy : 0 ≤ y ∧ y < 4294967296) : 0 ≤ y * x ∧ y * x ≤ 18446744065119617025 := by
  refine ⟨Int.mul_nonneg hy.1 hx.1, ?_⟩
  have h1 : y * x ≤ 4294967295 * x := Int.mul_le_mul_of_nonneg_right (by omega) hx.1
  omega

/-- one round -/
theorem times_step {ys zs os : List Int} {off k : Nat} {c x : Int} (hk : off + k < zs.length) (hz : Nt.lb zs (off + k) = Nt.lb os (off + k))
    (h : Nt.vt zs (off + k) + c * Nt.pw (off + k) = Nt.vt os (off + k) + x * Nt.vt ys k * Nt.pw off) :
    Nt.vt (zs.set (off + k) ((Nt.lb ys k * x + Nt.lb zs (off + k) + c) % 4294967296)) (off + (k + 1)) + (Nt.lb ys k * x + Nt.lb zs (off + k) + c) / 4294967296 * Nt.pw (off + (k + 1)) = Nt.vt os (off + (k + 1)) + x * Nt.vt ys (k + 1) * Nt.pw off := by
  rw [← Nat.add_assoc, Nt.vt_succ, Nt.vt_set (Nat.le_refl _), Nt.lb_set_eq hk, Nt.vt_succ, Nt.vt_succ, Nt.pw_succ]
  have e : (Nt.lb ys k * x + Nt.lb zs (off + k) + c) % 4294967296 + 4294967296 * ((Nt.lb ys k * x + Nt.lb zs (off + k) + c) / 4294967296) = Nt.lb ys k * x + Nt.lb zs (off + k) + c := Int.emod_add_mul_ediv _ _
  generalize (Nt.lb ys k * x + Nt.lb zs (off + k) + c) % 4294967296 = r at *
  generalize (Nt.lb ys k * x + Nt.lb zs (off + k) + c) / 4294967296 = q at *
  have e2 : (r + 4294967296 * q) * Nt.pw (off + k) = (Nt.lb ys k * x + Nt.lb zs (off + k) + c) * Nt.pw (off + k) := by rw [e]
  rw [Int.add_mul, Int.add_mul, Int.add_mul, Int.mul_assoc 4294967296] at e2
  rw [Int.mul_left_comm q, Int.mul_add, Int.add_mul (x * Nt.vt ys k)]
  have e3 : x * (Nt.lb ys k * Nt.pw k) * Nt.pw off = Nt.lb ys k * x * Nt.pw (off + k) := by
    rw [Nt.pw_add, ← Int.mul_assoc, Int.mul_comm x, Int.mul_assoc, Int.mul_assoc, Int.mul_assoc, Int.mul_comm (Nt.pw k)]
  rw [e3, ← hz]
  generalize x * Nt.vt ys k * Nt.pw off = a0 at *
  generalize r * Nt.pw (off + k) = a1 at *
  generalize Nt.lb ys k * x * Nt.pw (off + k) = a2 at *
  generalize Nt.lb zs (off + k) * Nt.pw (off + k) = a3 at *
  generalize c * Nt.pw (off + k) = a4 at *
  generalize q * Nt.pw (off + k) = a5 at *
  omega

set_option maxHeartbeats 1000000 in
theorem times_any {w0 w : World} {ro bo : Option Addr} {rc bc g off : Nat} {ys os : List Int} {x : Int} (hb : Below w0.heap.size w0 w) (hcy : Cells .u32 w0 bo ys) (hyo : Nt.Ok ys) (hym : ys.length ≤ 1099511627776) (hg : w0.heap.size ≤ g)
    (hx : 0 ≤ x ∧ x < 4294967296) (hr : Row .u32 44 w g os) (hoo : Nt.Ok os) (hfit : off + ys.length ≤ os.length) (hro : 0 < ys.length → ro = some ⟨g, off, none⟩) :
    Calls Tryz.prog 65 #[.slice ro ys.length rc, .slice bo ys.length bc, .int .u32 x] w fun e w' => ∃ (c : Int) (zs : List Int), e = .returned (.int .u32 c) ∧ 0 ≤ c ∧ c < 4294967296 ∧ zs.length = os.length ∧ Nt.Ok zs ∧
      (∀ j, j < off ∨ off + ys.length ≤ j → Nt.lb zs j = Nt.lb os j) ∧ Nt.vt zs (off + ys.length) + c * Nt.pw (off + ys.length) = Nt.vt os (off + ys.length) + x * Nt.val ys * Nt.pw off ∧ Row .u32 44 w' g zs ∧ Below w0.heap.size w0 w' := by
  obtain ⟨hx0, hx1⟩ := hx
  go_enter Tryz.func65, Tryz.ntmps65
  go_wp2
  go_loopw [7, 12] (fun c i wr => ∃ (k : Nat) (q : Int) (zs : List Int), k ≤ ys.length ∧ i = .int .i64 k ∧ c = .int .u64 q ∧ 0 ≤ q ∧ q < 4294967296 ∧ zs.length = os.length ∧ Nt.Ok zs ∧ (∀ j, j < off ∨ off + k ≤ j → Nt.lb zs j = Nt.lb os j) ∧
      Row .u32 44 wr g zs ∧ Below w0.heap.size w0 wr ∧ Nt.vt zs (off + k) + q * Nt.pw (off + k) = Nt.vt os (off + k) + x * Nt.vt ys k * Nt.pw off) (fun _ i _ => ys.length - (intOf i).toNat)
  case atStart => exact ⟨0, 0, os, by omega, rfl, rfl, by omega, by omega, rfl, hoo, fun _ _ => rfl, hr, hb, by simp [Nt.vt]⟩
  case round =>
    obtain ⟨k, q, zs, hk, rfl, rfl, hq0, hq1, hzl, hzo, hsame, hrow, hbr, heq⟩ := hrel
    have Heq : Hid _ := heq
    have Hzl : Hid (zs.length = os.length) := hzl
    have Hs : Hid (∀ j, j < off ∨ off + k ≤ j → Nt.lb zs j = Nt.lb os j) := hsame
    clear heq hzl hsame hr hb
    by_cases hkl : k < ys.length
    · have hR := hro (by omega)
      subst hR
      obtain ⟨b1, o1, rfl, _, hc1⟩ := (hcy.below hbr) (by omega)
      have g1 := hc1 k hkl
      have g2 := hrow.cell (i := off + k) (by have := Hzl.out; omega)
      have hfz := hrow.frozen (off + k)
      have byk := hyo k
      obtain ⟨by0, by1⟩ := byk
      have bzk := hzo (off + k)
      obtain ⟨bz0, bz1⟩ := bzk
      obtain ⟨bp0, bp1⟩ := prod_bd ⟨hx0, hx1⟩ ⟨by0, by1⟩
      clear hc1 hcy
      go_wp2
      go_region
      all_goals go_wp2
      all_goals go_roundw
      all_goals first
        | exact ⟨k + 1, (Nt.lb ys k * x + Nt.lb zs (off + k) + q) / 4294967296, zs.set (off + k) ((Nt.lb ys k * x + Nt.lb zs (off + k) + q) % 4294967296), by omega, by go_num, rfl, by omega, by omega, by have := Hzl.out; simp [this], Nt.ok_set hzo (by omega), fun j hj => by
            rw [Nt.lb_set_ne (by omega)]; exact Hs.out j (by omega), hrow.set _ _, (hbr.setCell (p := ⟨g, off + k, none⟩) hg _).drew, times_step (by have := Hzl.out; omega) (Hs.out _ (by omega)) Heq.out⟩
        | (simp [intOf]; omega)
    · have hke : k = ys.length := by omega
      subst hke
      go_wp2
      go_ret
      exact ⟨q, zs, by simp, hq0, hq1, Hzl.out, hzo, Hs.out, Heq.out, hrow, hbr⟩

/-- one row of a product -/
theorem mul_step {xs ys zs os : List Int} {k : Nat} {c : Int} (hl : k + ys.length < zs.length) (hz : Nt.vt zs (k + ys.length) + c * Nt.pw (k + ys.length) = Nt.vt os (k + ys.length) + Nt.lb xs k * Nt.val ys * Nt.pw k)
    (ho : Nt.vt os (k + ys.length) = Nt.vt xs k * Nt.val ys) : Nt.vt (zs.set (k + ys.length) c) (k + 1 + ys.length) = Nt.vt xs (k + 1) * Nt.val ys := by
  rw [Nat.add_right_comm, Nt.vt_succ, Nt.vt_set (Nat.le_refl _), Nt.lb_set_eq hl, hz, ho, Nt.vt_succ, Int.add_mul, Int.mul_right_comm]

set_option maxHeartbeats 2000000 in
theorem mul_any {w : World} {va vb : Value} {n m : Int} {ka kb : Nat} (ha : Arg w va n ka) (hb : Arg w vb m kb) (hka : ka ≤ 1099511627776) (hkb : kb ≤ 1099511627776) :
    Calls Tryz.prog 12 #[va, vb] w fun e w' => ∃ v, e = .returned v ∧ Num w.heap.size w' v (n * m) (ka + kb) ∧ Below w.heap.size w w' := by
  go_enter Tryz.func12, Tryz.ntmps12
  go_wp2_with fail
  refine (trim_arg ha).mono ?_
  rintro e w' ⟨rfl, ao, xs, rfl, hxk, hxm, hxc, hx, rfl⟩
  go_wp2_with fail
  refine (trim_arg hb).mono ?_
  rintro e w' ⟨rfl, bo, ys, rfl, hyk, hym, hyc, hy, rfl⟩
  clear ha hb
  go_wp2_with (at_make; refine wpList_make_row _ rfl _ _ 23 rfl 44 .u32 4 Tryz.underlying23 Tryz.infoU32 _ _ _ _ (xs.length + ys.length) (xs.length + ys.length) rfl rfl (by omega) (by omega) (Nat.le_refl _) (by omega) (by unfold maxLen; omega) ?_)
  intro w1 hr hbel hsz
  go_wp2
  go_loopw [19] (fun i wr => ∃ (k : Nat) (zs : List Int), k ≤ xs.length ∧ i = .int .i64 k ∧ zs.length = xs.length + ys.length ∧ Nt.Ok zs ∧ (∀ j, k + ys.length ≤ j → Nt.lb zs j = 0) ∧
      Row .u32 44 wr w'.heap.size zs ∧ Below w'.heap.size w' wr ∧ Nt.vt zs (k + ys.length) = Nt.vt xs k * Nt.val ys) (fun i _ => xs.length - (intOf i).toNat)
  case atStart => exact ⟨0, List.replicate (xs.length + ys.length) 0, by omega, rfl, by simp, Nt.ok_replicate _, fun j _ => Nt.lb_replicate _ _, hr, hbel, by
    rw [Nt.vt_cut (k := 0) (by omega) (fun i _ _ => Nt.lb_replicate _ _)]; simp [Nt.vt]⟩
  case round =>
    obtain ⟨k, zs, hk, rfl, hzl, hzo, hz0, hrow, hbr, heq⟩ := hrel
    have Heq : Hid _ := heq
    have Hzl : Hid (zs.length = xs.length + ys.length) := hzl
    have Hz : Hid (∀ j, k + ys.length ≤ j → Nt.lb zs j = 0) := hz0
    clear heq hzl hz0 hr hbel
    by_cases hkl : k < xs.length
    · obtain ⟨b1, o1, rfl, hb1, hc1⟩ := (hxc.below hbr) (by omega)
      have g1 := hc1 k hkl
      have bx := hx.1 k
      clear hc1 hxc
      have hbd : Below w'.heap.size w' wr.drew := hbr.drew
      have hrd : Row .u32 44 wr.drew w'.heap.size zs := hrow
      have hfit : k + ys.length ≤ zs.length := by have := Hzl.out; omega
      have i2 : (k : Int) + (ys.length : Int) < (xs.length : Int) + (ys.length : Int) := by omega
      have jw : IntKind.i64.wrap ((k : Int) + (ys.length : Int)) = (k : Int) + (ys.length : Int) := by rw [IntKind.wrap_i64]; omega
      have j1 : (0 : Int) ≤ (k : Int) + (ys.length : Int) := by omega
      have j3 : ¬ xs.length + ys.length = k := by omega
      have j4 : ((k : Int) + (ys.length : Int)).toNat = k + ys.length := by omega
      go_wp2
      go_region_with (go_at_call 65; refine (times_any hbd hyc hy.1 (by omega) (Nat.le_refl _) bx hrd hzo hfit (fun _ => rfl)).mono ?_; rintro e w3 ⟨c, zs', rfl, hc0, hc1, hzl', hzo', hsm, hv, hrow', hbr'⟩; have hfz := hrow'.frozen (k + ys.length); have hcl := hrow'.cell (i := k + ys.length) (by rw [hzl']; have := Hzl.out; omega); have HV := hide hv; have HSm := hide hsm; have HZl := hide hzl'; clear hv hsm hzl')
      all_goals go_wp2
      all_goals go_roundw
      all_goals first
        | exact ⟨k + 1, zs'.set (k + ys.length) c, by omega, by go_num, by rw [List.length_set, HZl.out, Hzl.out], Nt.ok_set hzo' ⟨hc0, hc1⟩, fun j hj => by
            rw [Nt.lb_set_ne (by omega), HSm.out j (by omega)]; exact Hz.out j (by omega), hrow'.set _ _, hbr'.setCell (p := ⟨w'.heap.size, k + ys.length, none⟩) (Nat.le_refl _) _, mul_step (by rw [HZl.out, Hzl.out]; omega) HV.out Heq.out⟩
        | (simp [intOf]; omega)
    · have hke : k = xs.length := by omega
      subst hke
      have hz2 : zs.length = xs.length + ys.length := Hzl.out
      have hfin : Nt.val zs = Nt.val xs * Nt.val ys := by
        unfold Nt.val
        rw [hz2]
        exact Heq.out
      have ht := trim_row (B := w'.heap.size) (cap := zs.length) hrow (Nat.le_refl _) (Nat.le_refl _) (by rw [hz2]; unfold maxLen; omega) hzo
      rw [hz2, hfin] at ht
      have Hfin : Hid _ := hfin
      clear hz2 hfin Heq
      go_wp2_with fail
      refine ht.mono ?_
      rintro e w3 ⟨rfl, v, rfl, hnum⟩
      go_wp2
      go_ret
      exact ⟨_, rfl, hnum.mono (by omega), hbr⟩

end Go.Proofs.YtagkolecbmjkbabGreatDoor
