/- quot.Gcd -/
import Derived.Test.YtkffaakjbbfiaaaDoorDiv
import Derived.Deep.LoopGhost
namespace Go.Proofs.YtkffaakjbbfiaaaDoor
open Go.RowKit

/-- the greatest number that divides both -/
def gd (n m : Int) : Int := ((Nat.gcd n.toNat m.toNat : Nat) : Int)
theorem gd_zero {n : Int} (h : 0 ≤ n) : gd n 0 = n := by unfold gd; simp; omega
theorem gd_step {n m : Int} (hn : 0 ≤ n) (hm : 0 ≤ m) : gd n m = gd m (n % m) := by
  unfold gd
  obtain ⟨a, rfl⟩ := Int.eq_ofNat_of_zero_le hn
  obtain ⟨b, rfl⟩ := Int.eq_ofNat_of_zero_le hm
  have e : (((a : Int) % (b : Int))).toNat = a % b := by rw [← Int.natCast_emod]; exact Int.toNat_natCast _
  rw [e]
  simp only [Int.toNat_natCast]
  rw [Nat.gcd_comm a b, Nat.gcd_rec b a, Nat.gcd_comm]

theorem emod_toNat {x y : Int} (hy : 0 < y) : (x % y).toNat < y.toNat := by
  have h1 := Int.emod_lt_of_pos x hy
  have h2 := Int.emod_nonneg x (show y ≠ 0 by omega)
  omega

set_option maxHeartbeats 2000000 in
theorem gcd_any {w : World} {va vb : Value} {n m : Int} {ka kb : Nat} (ha : Arg w va n ka) (hb : Arg w vb m kb) (hka : ka ≤ 70368744175900) (hkb : kb ≤ 70368744175900) :
    Calls Tryd.prog 14 #[va, vb] w fun e w' => ∃ v, e = .returned v ∧ Num w.heap.size w' v (gd n m) (max ka kb) ∧ Below w.heap.size w w' := by
  have hn0 := ha.nonneg
  have hm0 := hb.nonneg
  go_enter Tryd.func14, Tryd.ntmps14
  go_wp2_with fail
  refine (norm_any ha (by omega)).mono ?_
  rintro e w1 ⟨va1, rfl, hna, hb1⟩
  go_wp2_with fail
  refine (norm_any (hb.below hb1) (by omega)).mono ?_
  rintro e w2 ⟨vb1, rfl, hnb, hb2⟩
  have hna2 : Num w.heap.size w2 va1 n (max ka kb) := (hna.below hb2).mono (by omega)
  have hnb2 : Num w.heap.size w2 vb1 m (max ka kb) := (hnb.low hb1.size).mono (by omega)
  have hb12 := below_trans hb1 hb2
  clear ha hb hna hnb hb1 hb2
  go_wp2
  go_loopg [0, 1] m.toNat (fun c sa sb wr => ∃ (x y : Int), y.toNat = c ∧ 0 ≤ x ∧ 0 ≤ y ∧ Num w.heap.size wr sa x (max ka kb) ∧ Num w.heap.size wr sb y (max ka kb) ∧ gd x y = gd n m ∧ Below w.heap.size w wr)
  case atStart => exact ⟨n, m, rfl, hn0, hm0, hna2, hnb2, rfl, hb12⟩
  case round =>
    clear hna2 hnb2 hb12
    obtain ⟨x, y, hyc, hx0, hy0, hnx, hny, hg, hbw⟩ := hrel
    have hax := hnx.arg
    have hay := hny.arg
    obtain ⟨zs, ⟨bo, hsb, hzm, hzr⟩, hzc, hzv, hzk⟩ := hny
    have hny : Num w.heap.size wr (.slice bo zs.length zs.length) y (max ka kb) := ⟨zs, ⟨bo, rfl, hzm, hzr⟩, hzc, hzv, hzk⟩
    subst hsb
    by_cases hy : y = 0
    · have hze := (Nt.canon_zero hzc).1 (hzv.trans hy)
      have hgn : gd n m = x := by rw [← hg, hy]; exact gd_zero hx0
      have HG := hide hgn
      subst hze
      clear hgn hg hzr hzc hzv hny hay hyc hy hzm hzk
      go_wp2
      go_ret
      exact ⟨_, rfl, by rw [HG.out]; exact hnx, hbw⟩
    · have hzp : 0 < zs.length := by
        rcases Nat.eq_zero_or_pos zs.length with h | h
        · rw [List.eq_nil_of_length_eq_zero h, Nt.val_nil] at hzv; omega
        · exact h
      have hzp2 : (0 : Int) < (zs.length : Int) := by omega
      have hgs : gd y (x % y) = gd n m := by rw [← hg]; exact (gd_step hx0 hy0).symm
      have HGs := hide hgs
      have hlt : (x % y).toNat < y.toNat := emod_toNat (show 0 < y by omega)
      have h2 := Int.emod_nonneg x hy
      have hd := div_any hax hay (by omega) (by omega) (by omega)
      clear hgs hg hzr hzc hzv hax hay
      go_wp2_with fail
      with_reducible refine hd.mono ?_
      clear hd
      rintro e w3 ⟨q, r, rfl, hq, hr, hb3⟩
      have hr2 := hr.low hbw.size
      have hny2 := hny.below hb3
      have hbb := below_trans hbw hb3
      clear hq hr hnx
      go_wp2
      go_roundg (x % y).toNat
      case measure => omega
      case rel => exact ⟨y, x % y, rfl, hy0, h2, hny2, hr2, HGs.out, hbb⟩

end Go.Proofs.YtkffaakjbbfiaaaDoor
