/- nat.Sub -/
import Derived.Test.YtmpdkeafbjibpaaDoorLimb
import Derived.Test.YtmpdkeafbjibpaaDoorCmp
import Derived.Test.YtmpdkeafbjibpaaDoorSub32
import Derived.Deep.RegionWith
namespace Go.Proofs.YtmpdkeafbjibpaaDoor
open Go.RowKit

/-- one round of a difference -/
theorem sub_step {xs ys zs : List Int} {k : Nat} {c : Int} (hk : k < zs.length)
    (h : Nt.vt zs k - c * Nt.pw k = Nt.vt xs k - Nt.vt ys k) :
    Nt.vt (zs.set k ((Nt.lb xs k - Nt.lb ys k - c) % 4294967296)) (k + 1) - (-((Nt.lb xs k - Nt.lb ys k - c) / 4294967296)) * Nt.pw (k + 1) = Nt.vt xs (k + 1) - Nt.vt ys (k + 1) := by
  rw [Nt.vt_succ, Nt.vt_set (Nat.le_refl _), Nt.lb_set_eq hk, Nt.vt_succ, Nt.vt_succ, Nt.pw_succ]
  have e : (Nt.lb xs k - Nt.lb ys k - c) % 4294967296 + 4294967296 * ((Nt.lb xs k - Nt.lb ys k - c) / 4294967296) = Nt.lb xs k - Nt.lb ys k - c := Int.emod_add_mul_ediv _ _
  generalize (Nt.lb xs k - Nt.lb ys k - c) % 4294967296 = r at *
  generalize (Nt.lb xs k - Nt.lb ys k - c) / 4294967296 = q at *
  have e2 : (r + 4294967296 * q) * Nt.pw k = (Nt.lb xs k - Nt.lb ys k - c) * Nt.pw k := by rw [e]
  rw [Int.add_mul, Int.sub_mul, Int.sub_mul, Int.mul_assoc] at e2
  rw [Int.neg_mul, Int.mul_left_comm q]
  generalize r * Nt.pw k = a1 at *
  generalize Nt.lb xs k * Nt.pw k = a2 at *
  generalize Nt.lb ys k * Nt.pw k = a3 at *
  generalize c * Nt.pw k = a4 at *
  generalize q * Nt.pw k = a5 at *
  omega

theorem arg_of_cells {w : World} {ao : Option Addr} {xs : List Int} (hm : xs.length ≤ maxLen) (hc : Cells .u32 w ao xs) (ho : Nt.Ok xs) : Arg w (.slice ao xs.length xs.length) (Nt.val xs) xs.length :=
  ⟨xs, ⟨ao, _, rfl, Nat.le_refl _, hm, hc⟩, ho, rfl, Nat.le_refl _⟩

set_option maxHeartbeats 1000000 in
theorem sub_no {w : World} {va vb : Value} {n m : Int} {ka kb : Nat} (ha : Arg w va n ka) (hb : Arg w vb m kb) (hka : ka ≤ 1099511627776) (hkb : kb ≤ 1099511627776) (hlt : n < m) :
    Calls Tryd.prog 35 #[va, vb] w fun e w' => e = .returned (.tuple #[.slice none 0 0, .bool false]) ∧ Below w.heap.size w w' := by
  go_enter Tryd.func35, Tryd.ntmps35
  go_wp2_with fail
  refine (trim_arg ha).mono ?_
  rintro e w' ⟨rfl, ao, xs, rfl, hxk, hxm, hxc, hx, rfl⟩
  go_wp2_with fail
  refine (trim_arg hb).mono ?_
  rintro e w' ⟨rfl, bo, ys, rfl, hyk, hym, hyc, hy, rfl⟩
  clear ha hb
  have hs := sgn_lt hlt
  have c := cmp_any (arg_of_cells hxm hxc hx.1) (arg_of_cells hym hyc hy.1) (by omega) (by omega)
  rw [hs] at c
  clear hs
  go_wp2_with fail
  refine c.mono ?_
  clear c
  rintro e w2 ⟨rfl, hbel⟩
  go_wp2
  go_ret2
  exact ⟨rfl, hbel⟩

set_option maxHeartbeats 2000000 in
theorem sub_yes {w : World} {va vb : Value} {n m : Int} {ka kb : Nat} (ha : Arg w va n ka) (hb : Arg w vb m kb) (hka : ka ≤ 1099511627776) (hkb : kb ≤ 1099511627776) (hge : m ≤ n) :
    Calls Tryd.prog 35 #[va, vb] w fun e w' => ∃ v, e = .returned (.tuple #[v, .bool true]) ∧ Num w.heap.size w' v (n - m) ka ∧ Below w.heap.size w w' := by
  go_enter Tryd.func35, Tryd.ntmps35
  go_wp2_with fail
  refine (trim_arg ha).mono ?_
  rintro e w' ⟨rfl, ao, xs, rfl, hxk, hxm, hxc, hx, rfl⟩
  go_wp2_with fail
  refine (trim_arg hb).mono ?_
  rintro e w' ⟨rfl, bo, ys, rfl, hyk, hym, hyc, hy, rfl⟩
  clear ha hb
  have hs : 0 ≤ sgn (Nt.val xs) (Nt.val ys) := by unfold sgn; rw [if_neg (by omega)]; split <;> omega
  have c := cmp_any (arg_of_cells hxm hxc hx.1) (arg_of_cells hym hyc hy.1) (by omega) (by omega)
  have hll : ys.length ≤ xs.length := by
    by_cases h : xs.length < ys.length
    · have := Nt.canon_lt hx.1 hy h; omega
    · omega
  go_wp2_with fail
  refine c.mono ?_
  clear c
  rintro e w2 ⟨rfl, hbel⟩
  go_wp2_with (at_make; refine wpList_make_row _ rfl _ _ 23 rfl 59 .u32 4 Tryd.underlying23 Tryd.infoU32 _ _ _ _ xs.length xs.length rfl rfl (by omega) (by omega) (Nat.le_refl _) (by omega) (by unfold maxLen; omega) ?_)
  intro w1 hr hbel1 hsz
  have hBs := hbel.size
  have hbel2 : Below w'.heap.size w' w1 := hbel.trans (hbel1.mono hBs)
  clear hs
  have Hge : Hid (Nt.val ys ≤ Nt.val xs) := hge
  clear hge
  go_wp2
  go_loopw [7, 22] (fun c i wr => ∃ (k : Nat) (q : Int) (zs : List Int), k ≤ xs.length ∧ i = .int .i64 k ∧ c = .int .u32 q ∧ 0 ≤ q ∧ q ≤ 1 ∧ zs.length = xs.length ∧ Nt.Ok zs ∧ Row .u32 59 wr w2.heap.size zs ∧ Below w'.heap.size w' wr ∧ Nt.vt zs k - q * Nt.pw k = Nt.vt xs k - Nt.vt ys k) (fun _ i _ => xs.length - (intOf i).toNat)
  case atStart => exact ⟨0, 0, List.replicate xs.length 0, by omega, rfl, rfl, by omega, by omega, by simp, Nt.ok_replicate _, hr, hbel2, by simp [Nt.vt]⟩
  case round =>
    obtain ⟨k, q, zs, hk, rfl, rfl, hq0, hq1, hzl, hzo, hrow, hbr, heq⟩ := hrel
    have Heq : Hid (Nt.vt zs k - q * Nt.pw k = Nt.vt xs k - Nt.vt ys k) := heq
    have Hzl : Hid (zs.length = xs.length) := hzl
    have hcx : Cells .u32 wr ao xs := hxc.below hbr
    have hcy : Cells .u32 wr bo ys := hyc.below hbr
    clear heq hzl hr hbel1 hbel2
    by_cases hkl : k < xs.length
    · have bx := hx.1 k
      have by' := hy.1 k
      have hfz := hrow.frozen k
      have hcl := hrow.cell (i := k) (by have := Hzl.out; omega)
      obtain ⟨b1, o1, rfl, _, hc1⟩ := hcx (by omega)
      have g1 := hc1 k hkl
      clear hc1 hcx hxc
      go_wp2
      go_region_with (first | (go_at_call 52; refine (limb_any bo ys.length ys k _ hym (by exact hcy)).mono ?_; rintro e w3 ⟨rfl, rfl⟩) | (go_at_call 53; refine (sub32_any _ _ _ _ bx by' ⟨hq0, hq1⟩).mono ?_; rintro e w3 ⟨rfl, rfl⟩))
      all_goals go_wp2
      all_goals go_roundw
      all_goals first
        | exact ⟨k + 1, -((Nt.lb xs k - Nt.lb ys k - q) / 4294967296), zs.set k ((Nt.lb xs k - Nt.lb ys k - q) % 4294967296), by omega, by go_num, rfl, by omega, by omega, by have := Hzl.out; simp [this], Nt.ok_set hzo (by omega), hrow.set _ _, (hbr.setCell (p := ⟨w2.heap.size, k, none⟩) hBs _).drew, sub_step (by have := Hzl.out; omega) Heq.out⟩
        | (simp [intOf]; omega)
    · have hke : k = xs.length := by omega
      subst hke
      have hz2 : zs.length = xs.length := Hzl.out
      have hfin : Nt.val zs = Nt.val xs - Nt.val ys := by
        have h1 := Heq.out
        have h2 := Hge.out
        rw [Nt.vt_out (xs := xs) (by omega), Nt.vt_out (xs := ys) (by omega), Nt.vt_out (xs := zs) (by omega)] at h1
        have h3 := Nt.val_lt hzo
        rw [hz2] at h3
        have : q = 0 ∨ q = 1 := by omega
        rcases this with rfl | rfl
        · omega
        · omega
      have ht := trim_row (B := w'.heap.size) (cap := zs.length) hrow hBs (Nat.le_refl _) (by rw [hz2]; unfold maxLen; omega) hzo
      rw [hz2, hfin] at ht
      clear hz2
      have Hfin : Hid _ := hfin
      clear hfin Heq
      go_wp2_with fail
      refine ht.mono ?_
      rintro e w3 ⟨rfl, v, rfl, hnum⟩
      go_wp2
      go_ret2
      exact ⟨_, rfl, hnum.mono hxk, hbr⟩

end Go.Proofs.YtmpdkeafbjibpaaDoor
