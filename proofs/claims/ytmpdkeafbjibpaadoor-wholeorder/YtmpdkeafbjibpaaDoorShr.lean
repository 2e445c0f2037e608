/- nat.Shr -/
import Derived.Test.YtmpdkeafbjibpaaDoorShl
namespace Go.Proofs.YtmpdkeafbjibpaaDoor
open Go.RowKit

set_option maxHeartbeats 1000000 in
theorem shr_neg {w : World} {va : Value} {n A : Int} {ka : Nat} (ha : Arg w va A ka) (hn : n < 0) :
    Calls Tryd.prog 62 #[va, .int .i64 n] w fun e w' => e = .returned (.tuple #[.slice none 0 0, .bool false, .bool false]) ∧ w' = w := by
  go_enter Tryd.func62, Tryd.ntmps62
  go_wp2_with fail
  refine (trim_arg ha).mono ?_
  rintro e w' ⟨rfl, ao, xs, rfl, hxk, hxm, hxc, hx, rfl⟩
  clear ha
  go_wp2
  go_ret3
  exact ⟨rfl, rfl⟩

theorem vt_drop (xs : List Int) (W m : Nat) : Nt.vt xs (W + m) = Nt.vt xs W + Nt.vt (xs.drop W) m * Nt.pw W := by
  induction m with
  | zero => simp [Nt.vt]
  | succ m ih =>
    have e : Nt.lb (xs.drop W) m = Nt.lb xs (W + m) := by simp [Nt.lb, List.getElem?_drop]
    rw [← Nat.add_assoc, Nt.vt_succ, ih, Nt.vt_succ, e, Nt.pw_add, Int.add_mul, Int.mul_comm (Nt.pw W), Int.mul_assoc]
    omega
theorem val_drop {xs : List Int} {W : Nat} (h : W ≤ xs.length) : Nt.val xs = Nt.vt xs W + Nt.val (xs.drop W) * Nt.pw W := by
  have := vt_drop xs W (xs.length - W)
  rw [show W + (xs.length - W) = xs.length by omega] at this
  unfold Nt.val
  rw [List.length_drop]
  exact this
theorem ok_drop {xs : List Int} (h : Nt.Ok xs) (W : Nat) : Nt.Ok (xs.drop W) := by
  intro i
  have e : Nt.lb (xs.drop W) i = Nt.lb xs (W + i) := by simp [Nt.lb, List.getElem?_drop]
  rw [e]; exact h _

/-- what is shifted farther than its length -/
theorem far_lt {xs : List Int} {N W s : Nat} (hx : Nt.Ok xs) (hN : N = 32 * W + s) (hW : xs.length ≤ W) : Nt.val xs < p2 N := by
  have h1 := Nt.val_lt hx
  have h2 := Nt.pw_mono hW
  have h3 := p2_mono (m := 32 * W) (n := N) (by omega)
  rw [p2_32] at h3
  omega

set_option maxHeartbeats 2000000 in
/-- farther than its length: nothing is left -/
theorem shr_far {w : World} {va : Value} {n A : Int} {ka : Nat} (ha : Arg w va A ka) (hn : 0 ≤ n) (hn2 : n ≤ 9223372036854775807) (hf : A < Nt.pw (n / 32).toNat) :
    Calls Tryd.prog 62 #[va, .int .i64 n] w fun e w' => e = .returned (.tuple #[.slice none 0 0, .bool (decide (0 < A)), .bool true]) ∧ w' = w := by
  have hn' : ¬ n < 0 := by omega
  go_enter Tryd.func62, Tryd.ntmps62
  go_wp2_with fail
  refine (trim_arg ha).mono ?_
  rintro e w' ⟨rfl, ao, xs, rfl, hxk, hxm, hxc, hx, rfl⟩
  have hlen : (xs.length : Int) ≤ n / 32 := by
    by_cases h : xs.length ≤ (n / 32).toNat
    · omega
    · have hne : xs ≠ [] := by intro e; subst e; simp at h
      have h1 := Nt.canon_low hx hne
      have h2 := Nt.pw_mono (m := (n / 32).toNat) (n := xs.length - 1) (by omega)
      omega
  have hgt : decide (0 < Nt.val xs) = decide (0 < xs.length) := by
    by_cases h0 : xs.length = 0
    · have e := List.eq_nil_of_length_eq_zero h0
      subst e; rfl
    · have hne : xs ≠ [] := by intro e; subst e; simp at h0
      have h1 := Nt.canon_low hx hne
      have h2 := Nt.pw_pos (xs.length - 1)
      rw [decide_eq_true (by omega), decide_eq_true (by omega)]
  have Hgt := hide hgt
  clear ha hgt hf
  go_wp2
  go_ret3
  rw [Hgt.out]
  exact ⟨rfl, rfl⟩

theorem splice_over {α : Type} (L cs : List α) (h : L.length = cs.length) : splice L 0 cs = cs := by
  simp [splice, ← h]

set_option maxHeartbeats 2000000 in
theorem shr_near {w : World} {va : Value} {A : Int} {ka N W s : Nat} (ha : Arg w va A ka) (hka : ka ≤ 1099511627776) (hN : N = 32 * W + s) (hs : s < 32) (hf : Nt.pw W ≤ A) :
    Calls Tryd.prog 62 #[va, .int .i64 N] w fun e w' => ∃ v, e = .returned (.tuple #[v, .bool (decide (0 < A % p2 N)), .bool true]) ∧ Num w.heap.size w' v (A / p2 N) ka ∧ Below w.heap.size w w' := by
  have hq : (N : Int) / 32 = (W : Int) := by omega
  have hr : (N : Int) % 32 = (s : Int) := by omega
  have HN := hide hN
  clear hN
  go_enter Tryd.func62, Tryd.ntmps62
  go_wp2_with fail
  refine (trim_arg ha).mono ?_
  rintro e w' ⟨rfl, ao, xs, rfl, hxk, hxm, hxc, hx, rfl⟩
  have hW : W < xs.length := by
    by_cases h : W < xs.length
    · exact h
    · have h1 := Nt.val_lt hx.1
      have h2 := Nt.pw_mono (m := xs.length) (n := W) (by omega)
      omega
  have hW1 : (W : Int) < (xs.length : Int) := by omega
  have hW2 : (W : Int) ≤ (xs.length : Int) := by omega
  have hW3 : ¬ (xs.length : Int) ≤ (W : Int) := by omega
  have hWe : ¬ xs.length = W := by omega
  clear ha hf
  go_wp2_with (at_make; refine wpList_make_row _ rfl _ _ 23 rfl 59 .u32 4 Tryd.underlying23 Tryd.infoU32 _ _ _ _ (xs.length - W) (xs.length - W) rfl rfl (by omega) (by omega) (Nat.le_refl _) (by omega) (by unfold maxLen; omega) ?_)
  intro w2 hr2 hbel hsz
  obtain ⟨b, off, rfl, hb, hc⟩ := hxc (by omega)
  have hxc' : Cells .u32 w' (some ⟨b, off, none⟩) xs := fun _ => ⟨b, off, rfl, hb, hc⟩
  obtain ⟨ys, hys⟩ : ∃ ys, ys = xs.drop W := ⟨_, rfl⟩
  have hyl : ys.length = xs.length - W := by rw [hys, List.length_drop]
  have hyle : ys.length ≤ xs.length := by omega
  have hyo : Nt.Ok ys := by rw [hys]; exact ok_drop hx.1 W
  have hyv : Nt.val xs = Nt.vt xs W + Nt.val ys * Nt.pw W := by rw [hys]; exact val_drop (by omega)
  obtain ⟨cs, hcs⟩ : ∃ cs, cs = ys.map (Value.int .u32) := ⟨_, rfl⟩
  obtain ⟨cur, hcur⟩ : ∃ cur, cur = (List.replicate (xs.length - W) (0 : Int)).map (Value.int .u32) := ⟨_, rfl⟩
  have hr' : w2.heap[w'.heap.size]? = some (.cells cur.toArray 59 (0, 0)) := by rw [hcur]; exact hr2
  have hlc : cs.length = xs.length - W := by rw [hcs]; simp [hyl]
  have hlr : cur.length = xs.length - W := by rw [hcur]; simp
  have hpos : 0 < cs.length → some (⟨w'.heap.size, 0, none⟩ : Addr) = some ⟨w'.heap.size, 0, none⟩ ∧ ∃ ad, some (⟨b, off + W, none⟩ : Addr) = some ad ∧ ∀ j v, cs[j]? = some v → w2.cell? (ad.add j) = some v := by
    intro h
    refine ⟨rfl, _, rfl, fun j v hv => ?_⟩
    have hj : j < xs.length - W := by have := (List.getElem?_eq_some_iff.1 hv).1; omega
    rw [Addr.add_lit, Nat.add_assoc, (hbel.cell (p := ⟨b, off + (W + j), none⟩) hb).trans (hc (W + j) (by omega))]
    rw [hcs, hys] at hv
    simp [show W + j < xs.length by omega] at hv
    rw [← hv]; simp [Nt.lb, show W + j < xs.length by omega]
  have Hcs := hide hcs
  have Hcur := hide hcur
  have Hlc := hide hlc
  have Hlr := hide hlr
  have Hr := hide hr'
  have Hpos := hide hpos
  have Hys := hide hys
  have Hyl := hide hyl
  have Hyv := hide hyv
  clear hcs hcur hlc hlr hr' hpos hr2 hys hyl hyv
  go_wp2_with (refine wpList_copy_splice rfl (.tmp 28) (.tmp 31) 23 23 rfl 59 Tryd.underlying23 Tryd.sizeU32 (some ⟨w'.heap.size, 0, none⟩) (some ⟨b, off + W, none⟩) (xs.length - W) (xs.length - W) (xs.length - W) (xs.length - W) rfl rfl w'.heap.size 0 cur 59 Hr.out cs (by rw [Hlc.out]; exact (Nat.min_self _).symm) Hpos.out (by rw [Hlc.out, Hlr.out]; omega) (by rw [Hcs.out]; exact ints_oneCell _ _) w'.heap.size w' hbel (Nat.le_refl _) ?_)
  intro w3 HG hB3
  have hrow : Row .u32 59 w3 w'.heap.size ys := by
    have h := HG.out
    rw [splice_over _ _ (Hlr.out.trans Hlc.out.symm), Hcs.out] at h
    exact h
  have hlow := lower_any (cap := ys.length) hB3 (Nat.le_refl _) hs (by rw [Hyl.out]; omega) hrow hyo
  rw [Hyl.out] at hlow
  have Hlow := hide hlow
  clear Hr Hpos HG Hcs Hcur Hlc Hlr hbel hlow
  go_wp2_with fail
  refine Calls.mono Hlow.out ?_
  rintro e w4 ⟨r, zs, rfl, hr0, hr1, hzl, hzo, hv, hrow4, hB4⟩
  clear Hlow
  rw [← Hyl.out] at *
  have hp2 := p2_pos s
  have hQ := p2_pos (32 - s)
  have hv0 := Nt.vt_bounds hx.1 W
  have hdm : Nt.val xs / p2 N = Nt.val zs ∧ Nt.val xs % p2 N = r * Nt.pw W + Nt.vt xs W := by
    have hpN : p2 N = p2 s * Nt.pw W := by rw [HN.out, p2_add, p2_32, Int.mul_comm]
    have hpW := Nt.pw_pos W
    have h1 : (r + 1) * Nt.pw W ≤ p2 s * Nt.pw W := Int.mul_le_mul_of_nonneg_right (by omega) (by omega)
    have h2 : 0 ≤ r * Nt.pw W := Int.mul_nonneg hr0 (by omega)
    rw [Int.add_mul] at h1
    rw [Int.ediv_emod_unique (p2_pos N), hpN]
    refine ⟨?_, by omega, by omega⟩
    have e : p2 s * Nt.pw W * Nt.val zs = Nt.val zs * p2 s * Nt.pw W := by rw [Int.mul_comm _ (Nt.val zs), Int.mul_assoc]
    rw [Hyv.out, ← hv, Int.add_mul, e]
    omega
  have hpW := Nt.pw_pos W
  have ht := trim_row (B := w'.heap.size) (cap := zs.length) hrow4 (Nat.le_refl _) (Nat.le_refl _) (by rw [hzl]; unfold maxLen; omega) hzo
  rw [hzl] at ht
  have hWm : W ≤ maxLen := by unfold maxLen; omega
  have harg : Arg w4 (.slice (some ⟨b, off, none⟩) W xs.length) (Nt.vt xs W) W := by
    have hl : (xs.take W).length = W := by rw [List.length_take]; omega
    refine ⟨xs.take W, ⟨some ⟨b, off, none⟩, xs.length, by rw [hl], by omega, hxm, (hxc'.below hB4).take (by omega)⟩, Nt.ok_take hx.1 W, Nt.val_take (by omega), by omega⟩
  have Hdm := hide hdm
  have Ht := hide ht
  have hWx : (W : Int) ≤ (xs.length : Int) := by omega
  have h0x : ¬ xs.length = 0 := by omega
  have Hv := hide hv
  have Hzl := hide hzl
  have Hv0 := hide hv0
  clear hdm ht hv hrow hrow4 hc hxc' hzl hB3 hv0
  by_cases hr : r = 0
  · have hne : (r * p2 (32 - s) != 0) = false := by rw [hr]; simp
    have HR := hide hr
    clear hr hr0 hr1
    go_wp2_with fail
    refine Calls.mono Ht.out ?_
    rintro e w5 ⟨rfl, v, rfl, hnum⟩
    clear Ht
    go_wp2_with fail
    refine (trim_arg harg).mono ?_
    rintro e w6 ⟨rfl, ao', us, rfl, hul, hum, _, hu, huv⟩
    have hd : decide (0 < Nt.val xs % p2 N) = decide (0 < us.length) := by
      rw [Hdm.out.2, HR.out, Int.zero_mul, Int.zero_add, ← huv]
      by_cases h0 : us.length = 0
      · have e := List.eq_nil_of_length_eq_zero h0
        subst e; rfl
      · have hne : us ≠ [] := by intro e; subst e; simp at h0
        have h1 := Nt.canon_low hu hne
        have h2 := Nt.pw_pos (us.length - 1)
        rw [decide_eq_true (by omega), decide_eq_true (by omega)]
    have Hd := hide hd
    have Huv := hide huv
    clear hd huv harg
    go_wp2
    go_ret3
    rw [Hd.out, Hdm.out.1]
    exact ⟨v, rfl, hnum.mono (by omega), hB4⟩
  · have hne : (r * p2 (32 - s) != 0) = true := by
      have : 0 < r * p2 (32 - s) := Int.mul_pos (by omega) hQ
      simp; omega
    have hd : decide (0 < Nt.val xs % p2 N) = true := by
      rw [Hdm.out.2]
      have : 0 < r * Nt.pw W := Int.mul_pos (by omega) hpW
      have := Hv0.out
      rw [decide_eq_true (by omega)]
    have Hd := hide hd
    clear hd hr hr0 hr1
    go_wp2_with fail
    refine Calls.mono Ht.out ?_
    rintro e w5 ⟨rfl, v, rfl, hnum⟩
    clear Ht
    go_wp2
    go_ret3
    rw [Hd.out, Hdm.out.1]
    exact ⟨v, rfl, hnum.mono (by omega), hB4⟩

end Go.Proofs.YtmpdkeafbjibpaaDoor
