/- quot.raised -/
import Derived.Test.YtmpdkeafbjibpaaDoorRaise
import Derived.Test.YtmpdkeafbjibpaaDoorTakeOff
namespace Go.Proofs.YtmpdkeafbjibpaaDoor
open Go.RowKit

theorem raised_step {xs zs : List Int} {k : Nat} {q P t : Int} (hk : k < zs.length) (ht : t = q + Nt.lb xs k * P) (h : Nt.vt zs k + q * Nt.pw k = Nt.vt xs k * P) :
    Nt.vt (zs.set k (t % 4294967296)) (k + 1) + t / 4294967296 * Nt.pw (k + 1) = Nt.vt xs (k + 1) * P := by
  rw [Nt.vt_succ, Nt.vt_set (Nat.le_refl _), Nt.lb_set_eq hk, Nt.vt_succ, Nt.pw_succ]
  have e : t % 4294967296 + 4294967296 * (t / 4294967296) = t := Int.emod_add_mul_ediv _ _
  generalize t % 4294967296 = r at *
  generalize t / 4294967296 = s at *
  grind
/-- the bits that are carried lie below those that are shifted -/
theorem or_low {n : Nat} {a c : Int} (ha : 0 ≤ a) (hc0 : 0 ≤ c) (hc1 : c < p2 n) (hlt : a * p2 n + c < 18446744073709551616) : bits .or .u64 c (a * p2 n) = c + a * p2 n := by
  obtain ⟨x, rfl⟩ := Int.eq_ofNat_of_zero_le ha
  obtain ⟨y, rfl⟩ := Int.eq_ofNat_of_zero_le hc0
  rw [p2_cast] at *
  have e : ((x : Int) * ((2 ^ n : Nat) : Int)) = ((x * 2 ^ n : Nat) : Int) := by rw [Int.natCast_mul]
  rw [e] at hlt ⊢
  have hy : y < 2 ^ n := by omega
  rw [u64_or_nat _ _ (by omega) (by omega), Nat.or_comm, nat_join n (x * 2 ^ n) y (Nat.mul_mod_left _ _) hy]
  omega

set_option maxHeartbeats 2000000 in
theorem raised_any {w : World} {ao : Option Addr} {ca n : Nat} {xs : List Int} (hxc : Cells .u32 w ao xs) (hxo : Nt.Ok xs) (hm : xs.length ≤ 1099511627776) (hn : n < 32) :
    Calls Tryd.prog 60 #[.slice ao xs.length ca, .int .i64 n] w fun e w' => ∃ (g : Nat) (zs : List Int), e = .returned (.slice (some ⟨g, 0, none⟩) zs.length zs.length) ∧ w.heap.size ≤ g ∧ Row .u32 59 w' g zs ∧ Nt.Ok zs ∧
      zs.length = xs.length + 1 ∧ Nt.val zs = Nt.val xs * p2 n ∧ Below w.heap.size w w' := by
  have hn0 : ¬ (n : Int) < 0 := by omega
  have hn32 : (n : Int) < 32 := by omega
  have hp := p2_pos n
  have hp31 : p2 n ≤ 2147483648 := p2_mono (m := n) (n := 31) (by omega)
  go_enter Tryd.func60, Tryd.ntmps60
  go_wp2_with (at_make; refine wpList_make_row _ rfl _ _ 23 rfl 59 .u32 4 Tryd.underlying23 Tryd.infoU32 _ _ _ _ (xs.length + 1) (xs.length + 1) rfl rfl (by omega) (by omega) (Nat.le_refl _) (by omega) (by unfold maxLen; omega) ?_)
  intro w1 hr hbel hsz
  go_wp2
  go_loopw [6, 14] (fun c i wr => ∃ (k : Nat) (q : Int) (zs : List Int), k ≤ xs.length ∧ i = .int .i64 k ∧ c = .int .u64 q ∧ 0 ≤ q ∧ q < p2 n ∧ zs.length = xs.length + 1 ∧ Nt.Ok zs ∧ Row .u32 59 wr w.heap.size zs ∧ Below w.heap.size w wr ∧ Nt.vt zs k + q * Nt.pw k = Nt.vt xs k * p2 n) (fun _ i _ => xs.length - (intOf i).toNat)
  case atStart => exact ⟨0, 0, List.replicate (xs.length + 1) 0, by omega, rfl, rfl, by omega, hp, by simp, Nt.ok_replicate _, hr, hbel, by simp [Nt.vt]⟩
  case round =>
    obtain ⟨k, q, zs, hk, rfl, rfl, hq0, hq1, hzl, hzo, hrow, hbr, heq⟩ := hrel
    have Heq := hide heq
    have Hzl := hide hzl
    clear heq hzl hr hbel
    by_cases hkl : k < xs.length
    · obtain ⟨b1, o1, rfl, _, hc1⟩ := (hxc.below hbr) (by omega)
      have g1 := hc1 k hkl
      have g2 := hrow.cell (i := k) (by have := Hzl.out; omega)
      have hfz := hrow.frozen k
      obtain ⟨bx0, bx1⟩ := hxo k
      have hb1 : 0 ≤ Nt.lb xs k * p2 n := Int.mul_nonneg bx0 (by omega)
      have hb2 : Nt.lb xs k * p2 n ≤ 4294967295 * p2 n := Int.mul_le_mul_of_nonneg_right (by omega) (by omega)
      have hor := or_low (n := n) (a := Nt.lb xs k) (c := q) bx0 hq0 hq1 (by omega)
      have hpn := p2_pow n
      have hst := raised_step (xs := xs) (zs := zs) (k := k) (q := q) (P := p2 n) (by have := Hzl.out; omega) rfl Heq.out
      have hq2 : (q + Nt.lb xs k * p2 n) / 4294967296 < p2 n := by omega
      have hq3 : 0 ≤ (q + Nt.lb xs k * p2 n) / 4294967296 := by omega
      rw [hpn] at hor hb1 hb2
      have Hst := hide hst
      have Hq2 := hide hq2
      have Hq3 := hide hq3
      have Hpn := hide hpn
      have hwr : IntKind.u64.wrap (Nt.lb xs k * 2 ^ n) = Nt.lb xs k * 2 ^ n := by rw [IntKind.wrap_u64]; exact Int.emod_eq_of_lt hb1 (by omega)
      clear hc1 hst hq2 hq3 hpn
      go_wp2
      go_roundw
      case rel => exact ⟨k + 1, (q + Nt.lb xs k * p2 n) / 4294967296, zs.set k ((q + Nt.lb xs k * p2 n) % 4294967296), by omega, by go_num, by rw [Hpn.out], Hq3.out, Hq2.out, by have := Hzl.out; simp [this], Nt.ok_set hzo (by omega), by rw [Hpn.out]; exact hrow.set _ _, hbr.setCell (Nat.le_refl _) _, Hst.out⟩
      case measure => simp [intOf]; omega
    · have hke : k = xs.length := by omega
      subst hke
      have g2 := hrow.cell (i := xs.length) (by have := Hzl.out; omega)
      have hfz := hrow.frozen xs.length
      have hq2 : q < 4294967296 := by omega
      have hz2 : zs.length = xs.length + 1 := Hzl.out
      have hfin : Nt.val (zs.set xs.length q) = Nt.val xs * p2 n := by
        unfold Nt.val
        rw [List.length_set, hz2, Nt.vt_succ, Nt.vt_set (Nat.le_refl _), Nt.lb_set_eq (by omega)]
        exact Heq.out
      have HF := hide hfin
      have hok : Nt.Ok (zs.set xs.length q) := Nt.ok_set hzo (by omega)
      clear hfin Heq hz2
      go_wp2
      go_ret
      exact ⟨w.heap.size, zs.set xs.length q, by rw [List.length_set, Hzl.out]; rfl, Nat.le_refl _, hrow.set _ _, hok, by rw [List.length_set, Hzl.out], HF.out, hbr.setCell (Nat.le_refl _) _⟩

end Go.Proofs.YtmpdkeafbjibpaaDoor
