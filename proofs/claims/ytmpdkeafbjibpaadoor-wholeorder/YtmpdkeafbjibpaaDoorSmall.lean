/- bits.Div32, nat.Small -/
import Derived.Test.YtmpdkeafbjibpaaDoorLimb
import Derived.Deep.RegionWith
namespace Go.Proofs.YtmpdkeafbjibpaaDoor
open Go.RowKit

set_option maxHeartbeats 1000000 in
theorem div32_any (x y d : Int) (w : World) (hx0 : 0 ≤ x) (hx1 : x < d) (hy0 : 0 ≤ y) (hy1 : y < 4294967296) (hd1 : d < 4294967296) :
    Calls Tryd.prog 72 #[.int .u32 x, .int .u32 y, .int .u32 d] w fun e w' => e = .returned (.tuple #[.int .u32 ((x * 4294967296 + y) / d), .int .u32 ((x * 4294967296 + y) % d)]) ∧ Below w.heap.size w w' := by
  have hj := or_join x y hx0 (by omega) hy0 hy1
  have h1 : (d != 0) = true := by simp; omega
  have h2 : ¬ d ≤ x := by omega
  go_enter Tryd.func72, Tryd.ntmps72
  go_wp2
  go_region
  all_goals go_wp2
  all_goals go_ret2
  have q0 : 0 ≤ (x * 4294967296 + y) / d := Int.ediv_nonneg (by omega) (by omega)
  have q1 : (x * 4294967296 + y) / d < 4294967296 := Int.ediv_lt_of_lt_mul (by omega) (by omega)
  have r0 : 0 ≤ (x * 4294967296 + y) % d := Int.emod_nonneg _ (by omega)
  have r1 : (x * 4294967296 + y) % d < d := Int.emod_lt_of_pos _ (by omega)
  have e1 : (x * 4294967296 + y) / d % 4294967296 = (x * 4294967296 + y) / d := by omega
  have e2 : (x * 4294967296 + y) % d % 4294967296 = (x * 4294967296 + y) % d := by omega
  refine ⟨?_, (Below.refl _ _).drew⟩
  rw [e1, e2]
  rfl

theorem vt_set_add {zs : List Int} {i : Nat} (hi : i < zs.length) (h0 : Nt.lb zs i = 0) (q : Int) (n : Nat) (hn : i < n) : Nt.vt (zs.set i q) n = Nt.vt zs n + q * Nt.pw i := by
  induction n with
  | zero => omega
  | succ n ih =>
    rw [Nt.vt_succ, Nt.vt_succ]
    by_cases e : i = n
    · subst e; rw [Nt.vt_set (Nat.le_refl _), Nt.lb_set_eq hi, h0]; simp
    · rw [Nt.lb_set_ne e, ih (by omega)]; omega
theorem val_set_add {zs : List Int} {i : Nat} (hi : i < zs.length) (h0 : Nt.lb zs i = 0) (q : Int) : Nt.val (zs.set i q) = Nt.val zs + q * Nt.pw i := by
  unfold Nt.val
  rw [List.length_set]
  exact vt_set_add hi h0 q _ hi

/-- one round of a division, from the top -/
theorem small_step {xs zs : List Int} {m : Nat} {r d V : Int} (hm : m < zs.length) (h0 : Nt.lb zs m = 0) (h : V = Nt.vt xs (m + 1) + Nt.val zs * d + r * Nt.pw (m + 1)) :
    V = Nt.vt xs m + Nt.val (zs.set m ((r * 4294967296 + Nt.lb xs m) / d)) * d + ((r * 4294967296 + Nt.lb xs m) % d) * Nt.pw m := by
  rw [h, val_set_add hm h0, Nt.vt_succ, Nt.pw_succ]
  have e : (r * 4294967296 + Nt.lb xs m) % d + d * ((r * 4294967296 + Nt.lb xs m) / d) = r * 4294967296 + Nt.lb xs m := Int.emod_add_mul_ediv _ _
  generalize (r * 4294967296 + Nt.lb xs m) % d = s at *
  generalize (r * 4294967296 + Nt.lb xs m) / d = q at *
  have e2 : (s + d * q) * Nt.pw m = (r * 4294967296 + Nt.lb xs m) * Nt.pw m := by rw [e]
  rw [Int.add_mul, Int.add_mul] at e2
  rw [Int.add_mul, ← Int.mul_assoc r]
  have e3 : q * Nt.pw m * d = d * q * Nt.pw m := by rw [Int.mul_comm, ← Int.mul_assoc]
  rw [e3]
  omega

set_option maxHeartbeats 1000000 in
theorem small_no {w : World} {va : Value} :
    Calls Tryd.prog 58 #[va, .int .u32 0] w fun e w' => e = .returned (.tuple #[.slice none 0 0, .int .u32 0, .bool false]) ∧ w' = w := by
  go_enter Tryd.func58, Tryd.ntmps58
  go_wp2
  go_ret3
  exact ⟨rfl, rfl⟩

set_option maxHeartbeats 2000000 in
theorem small_yes {w : World} {va : Value} {n d : Int} {ka : Nat} (ha : Arg w va n ka) (hka : ka ≤ 1099511627776) (hd0 : 0 < d) (hd1 : d < 4294967296) :
    Calls Tryd.prog 58 #[va, .int .u32 d] w fun e w' => ∃ v, e = .returned (.tuple #[v, .int .u32 (n % d), .bool true]) ∧ Num w.heap.size w' v (n / d) ka ∧ Below w.heap.size w w' := by
  have hdz : (d == 0) = false := by simp; omega
  go_enter Tryd.func58, Tryd.ntmps58
  go_wp2_with fail
  refine (trim_arg ha).mono ?_
  rintro e w' ⟨rfl, ao, xs, rfl, hxk, hxm, hxc, hx, rfl⟩
  clear ha
  go_wp2_with (at_make; refine wpList_make_row _ rfl _ _ 23 rfl 59 .u32 4 Tryd.underlying23 Tryd.infoU32 _ _ _ _ xs.length xs.length rfl rfl (by omega) (by omega) (Nat.le_refl _) (by omega) (by unfold maxLen; omega) ?_)
  intro w1 hr hbel hsz
  go_wp2
  go_loopw [5, 19] (fun c i wr => ∃ (k : Nat) (r : Int) (zs : List Int), k ≤ xs.length ∧ i = .int .i64 k ∧ c = .int .u32 r ∧ 0 ≤ r ∧ r < d ∧ zs.length = xs.length ∧ Nt.Ok zs ∧ (∀ j, j < xs.length - k → Nt.lb zs j = 0) ∧ Row .u32 59 wr w'.heap.size zs ∧ Below w'.heap.size w' wr ∧
      Nt.val xs = Nt.vt xs (xs.length - k) + Nt.val zs * d + r * Nt.pw (xs.length - k)) (fun _ i _ => xs.length - (intOf i).toNat)
  case atStart => exact ⟨0, 0, List.replicate xs.length 0, by omega, rfl, rfl, by omega, by omega, by simp, Nt.ok_replicate _, fun j _ => Nt.lb_replicate _ _, hr, hbel, by
    have e : Nt.val (List.replicate xs.length 0) = 0 := by
      unfold Nt.val; rw [Nt.vt_cut (k := 0) (by omega) (fun i _ _ => Nt.lb_replicate _ _)]; rfl
    rw [e]; simp [Nt.val]⟩
  case round =>
    obtain ⟨k, r, zs, hk, rfl, rfl, hr0, hr1, hzl, hzo, hz0, hrow, hbr, heq⟩ := hrel
    have Heq := hide heq
    have Hzl := hide hzl
    have Hz := hide hz0
    clear heq hzl hz0 hr hbel
    by_cases hkl : k < xs.length
    · obtain ⟨b1, o1, rfl, hb1, hc1⟩ := (hxc.below hbr) (by omega)
      have g1 := hc1 (xs.length - 1 - k) (by omega)
      have bx := hx.1 (xs.length - 1 - k)
      obtain ⟨bx0, bx1⟩ := bx
      have hfz := hrow.frozen (xs.length - 1 - k)
      have hcl := hrow.cell (i := xs.length - 1 - k) (by have := Hzl.out; omega)
      have q0 : 0 ≤ (r * 4294967296 + Nt.lb xs (xs.length - 1 - k)) / d := Int.ediv_nonneg (by omega) (by omega)
      have q1 : (r * 4294967296 + Nt.lb xs (xs.length - 1 - k)) / d < 4294967296 := Int.ediv_lt_of_lt_mul (by omega) (by omega)
      have r0 : 0 ≤ (r * 4294967296 + Nt.lb xs (xs.length - 1 - k)) % d := Int.emod_nonneg _ (by omega)
      have r1 : (r * 4294967296 + Nt.lb xs (xs.length - 1 - k)) % d < d := Int.emod_lt_of_pos _ (by omega)
      have hst := small_step (xs := xs) (zs := zs) (m := xs.length - 1 - k) (r := r) (d := d) (V := Nt.val xs) (by have := Hzl.out; omega) (Hz.out _ (by omega)) (by rw [show xs.length - 1 - k + 1 = xs.length - k by omega]; exact Heq.out)
      have Hst := hide hst
      clear hc1 hxc hst
      go_wp2_with fail
      refine (div32_any r (Nt.lb xs (xs.length - 1 - k)) d _ hr0 hr1 bx0 bx1 hd1).mono ?_
      rintro e w3 ⟨rfl, hb3⟩
      have hr3 := hrow.keeps hb3
      have hfz3 := hr3.frozen (xs.length - 1 - k)
      have hcl3 := hr3.cell (i := xs.length - 1 - k) (by have := Hzl.out; omega)
      have hbr3 : Below w'.heap.size w' w3 := hbr.trans (hb3.mono hbr.size)
      clear hfz hcl hrow hb3 hbr
      go_wp2
      go_roundw
      case rel => exact ⟨k + 1, (r * 4294967296 + Nt.lb xs (xs.length - 1 - k)) % d, zs.set (xs.length - 1 - k) ((r * 4294967296 + Nt.lb xs (xs.length - 1 - k)) / d), by omega, by go_num, rfl, r0, r1, by have := Hzl.out; simp [this], Nt.ok_set hzo ⟨q0, q1⟩, fun j hj => by
        rw [Nt.lb_set_ne (by omega)]; exact Hz.out j (by omega), hr3.set _ _, hbr3.setCell (p := ⟨w'.heap.size, xs.length - 1 - k, none⟩) (Nat.le_refl _) _, by
        rw [show xs.length - (k + 1) = xs.length - 1 - k by omega]; exact Hst.out⟩
      case measure => simp [intOf]; omega
    · have hke : k = xs.length := by omega
      subst hke
      have hz2 : zs.length = xs.length := Hzl.out
      have hfin : Nt.val xs = Nt.val zs * d + r := by
        have := Heq.out
        rw [Nat.sub_self] at this
        simp only [Nt.vt, Nt.pw] at this
        omega
      have hq : Nt.val xs / d = Nt.val zs ∧ Nt.val xs % d = r := by
        rw [Int.ediv_emod_unique hd0]
        refine ⟨?_, hr0, hr1⟩
        rw [hfin, Int.mul_comm]; omega
      obtain ⟨hq1, hq2⟩ := hq
      have ht := trim_row (B := w'.heap.size) (cap := zs.length) hrow (Nat.le_refl _) (Nat.le_refl _) (by rw [hz2]; unfold maxLen; omega) hzo
      rw [hz2] at ht
      have Hq1 := hide hq1
      have Hq2 := hide hq2
      clear hz2 hfin Heq hq1 hq2
      go_wp2_with fail
      refine ht.mono ?_
      rintro e w3 ⟨rfl, v, rfl, hnum⟩
      go_wp2
      go_ret3
      refine ⟨v, ?_, ?_, hbr⟩
      · rw [Hq2.out]; rfl
      · rw [Hq1.out]; exact hnum.mono hxk

end Go.Proofs.YtmpdkeafbjibpaaDoor
