/- quot.cut, quot.Div -/
import Derived.Test.YtmpdkeafbjibpaaDoorDivMath
import Derived.Test.YtmpdkeafbjibpaaDoorRaised
import Derived.Test.YtmpdkeafbjibpaaDoorLong
import Derived.Test.YtmpdkeafbjibpaaDoorShr
import Derived.Test.YtmpdkeafbjibpaaDoorSmall
import Derived.Test.YtmpdkeafbjibpaaDoorCmp
import Derived.Test.YtmpdkeafbjibpaaDoorNorm
import Derived.Test.YtmpdkeafbjibpaaDoorHalves
namespace Go.Proofs.YtmpdkeafbjibpaaDoor
open Go.RowKit

theorem Num.tight {B : Nat} {w : World} {v : Value} {n : Int} {k k' : Nat} (h : Num B w v n k) (hn : n < Nt.pw k') : Num B w v n k' := by
  obtain ⟨zs, h1, h2, h3, h4⟩ := h
  refine ⟨zs, h1, h2, h3, ?_⟩
  rcases Nat.lt_or_ge k' zs.length with e | e
  · exfalso
    have h5 := Nt.canon_low h2 (by intro e'; subst e'; simp at e)
    have h6 := Nt.pw_mono (m := k') (n := zs.length - 1) (by omega)
    omega
  · exact e
theorem Arg.lt {w : World} {v : Value} {n : Int} {k : Nat} (h : Arg w v n k) : n < Nt.pw k := by
  obtain ⟨zs, _, h2, rfl, h4⟩ := h
  have h5 := Nt.val_lt h2
  have h6 := Nt.pw_mono h4
  omega

set_option maxHeartbeats 1000000 in
theorem cut_arg {w : World} {v : Value} {n : Int} {m : Nat} (ha : Arg w v n m) (hm : m ≤ 1099511627776) :
    Calls Tryd.prog 57 #[v] w fun e w' => w' = w ∧ ∃ ao zs cap, e = .returned (.slice ao zs.length cap) ∧ zs.length ≤ cap ∧ cap ≤ maxLen ∧ zs.length ≤ m ∧ Cells .u32 w ao zs ∧ Nt.Canon zs ∧ Nt.val zs = n := by
  have hlen := len_any ha hm
  obtain ⟨xs, ⟨ao, cap, rfl, h1, h2, h3⟩, h4, h5, h6⟩ := ha
  obtain ⟨j, hj, hc, hv⟩ := canon_exists xs h4
  have hl : (xs.take j).length = j := by rw [List.length_take, Nat.min_eq_left hj]
  rw [h5] at hv
  go_enter Tryd.func57, Tryd.ntmps57
  go_wp2_with fail
  refine hlen.mono ?_
  clear hlen
  rintro e w' ⟨k, rfl, hk, hk2, rfl⟩
  have hkj : (k + 31) / 32 = j := by rw [limbs_of_len hc (by rw [hv]; exact hk), hl]
  have q1 : ((k : Int) + 32 - 1) / 32 = (j : Int) := by omega
  have q2 : j ≤ cap := by omega
  have q3 : (j : Int) ≤ (cap : Int) := by omega
  have Hk := hide hk
  have Hv := hide hv
  have Hl := hide hl
  clear hk hv hl h5 hkj
  go_wp2
  go_ret
  exact ⟨rfl, ao, xs.take j, cap, by rw [Hl.out]; rfl, by rw [Hl.out]; omega, h2, by rw [Hl.out]; omega, h3.take hj, hc, Hv.out⟩

set_option maxHeartbeats 1000000 in
theorem leadz_any (x : Int) (w : World) (hx0 : 0 ≤ x) (hx1 : x < 4294967296) :
    Calls Tryd.prog 59 #[.int .u32 x] w fun e w' => ∃ k : Nat, e = .returned (.int .i64 ((32 - k : Nat) : Int)) ∧ IsLen x k ∧ k ≤ 32 ∧ w' = w := by
  go_enter Tryd.func59, Tryd.ntmps59
  go_wp2_with fail
  refine (len32_any x w hx0 hx1).mono ?_
  rintro e w' ⟨k, rfl, hk, hk2, rfl⟩
  have q1 : (32 : Int) - (k : Int) = ((32 - k : Nat) : Int) := by omega
  have Hk := hide hk
  clear hk
  go_wp2
  go_ret
  exact ⟨k, by first | rfl | (rw [q1]) | simp [q1], Hk.out, hk2, rfl⟩

theorem row_cells_take {w : World} {g n : Nat} {zs : List Int} (h : Row .u32 59 w g zs) (hn : n ≤ zs.length) : Cells .u32 w (some ⟨g, 0, none⟩) (zs.take n) := by
  have h2 := row_cells (off := 0) (n := n) h (by omega)
  rw [List.drop_zero] at h2
  exact h2

/-- less than a limb's bits -/
theorem shr_some {w : World} {va : Value} {A : Int} {ka s : Nat} (ha : Arg w va A ka) (hka : ka ≤ 1099511627776) (hs : s < 32) :
    Calls Tryd.prog 62 #[va, .int .i64 s] w fun e w' => ∃ v b, e = .returned (.tuple #[v, .bool b, .bool true]) ∧ Num w.heap.size w' v (A / p2 s) ka ∧ Below w.heap.size w w' := by
  have h0 := ha.nonneg
  by_cases h1 : 1 ≤ A
  · refine (shr_near (N := s) (W := 0) (s := s) ha hka (by omega) hs (by rw [Nt.pw_zero]; exact h1)).mono ?_
    rintro e w' ⟨v, rfl, hn, hb⟩
    exact ⟨v, _, rfl, hn, hb⟩
  · have e0 : A = 0 := by omega
    subst e0
    have e1 : ((s : Int) / 32).toNat = 0 := by omega
    refine (shr_far (n := (s : Int)) ha (by omega) (by omega) (by rw [e1, Nt.pw_zero]; omega)).mono ?_
    rintro e w' ⟨rfl, rfl⟩
    refine ⟨_, _, rfl, ?_, Below.refl _ _⟩
    rw [Int.zero_ediv]
    exact ⟨[], ⟨none, rfl, by unfold maxLen; simp, fun h => absurd h (by simp)⟩, Nt.canon_nil, rfl, by simp⟩

set_option maxHeartbeats 1000000 in
theorem div_zero {w : World} {va vb : Value} {n : Int} {ka kb : Nat} (ha : Arg w va n ka) (hb : Arg w vb 0 kb) (hka : ka ≤ 1099511627776) (hkb : kb ≤ 1099511627776) :
    Calls Tryd.prog 45 #[va, vb] w fun e w' => e = .returned (.tuple #[.slice none 0 0, .slice none 0 0, .bool false]) ∧ w' = w := by
  go_enter Tryd.func45, Tryd.ntmps45
  go_wp2_with fail
  refine (cut_arg ha hka).mono ?_
  rintro e w' ⟨rfl, ao, xs, ca, rfl, hxl, hxm, hxk, hxc, hx, rfl⟩
  go_wp2_with fail
  refine (cut_arg hb hkb).mono ?_
  rintro e w' ⟨rfl, bo, ys, cb, rfl, hyl, hym, hyk, hyc, hy, hv⟩
  have hye := (Nt.canon_zero hy).1 hv
  subst hye
  clear ha hb hv
  go_wp2
  go_ret3
  exact ⟨rfl, rfl⟩

set_option maxRecDepth 20000 in
set_option maxHeartbeats 4000000 in
theorem div_any {w : World} {va vb : Value} {n m : Int} {ka kb : Nat} (ha : Arg w va n ka) (hb : Arg w vb m kb) (hka : ka ≤ 549755813888) (hkb : kb ≤ 549755813888) (hm0 : 0 < m) :
    Calls Tryd.prog 45 #[va, vb] w fun e w' => ∃ q r, e = .returned (.tuple #[q, r, .bool true]) ∧ Num w.heap.size w' q (n / m) ka ∧ Num w.heap.size w' r (n % m) kb ∧ Below w.heap.size w w' := by
  have hn0 := ha.nonneg
  have hnlt := ha.lt
  have hmlt := hb.lt
  have hqlt : n / m < Nt.pw ka := Int.lt_of_le_of_lt (Int.ediv_le_self _ hn0) hnlt
  have hrlt : n % m < Nt.pw kb := Int.lt_trans (Int.emod_lt_of_pos _ hm0) hmlt
  have Hq := hide hqlt
  have Hr := hide hrlt
  clear hqlt hrlt hnlt hmlt
  go_enter Tryd.func45, Tryd.ntmps45
  go_wp2_with fail
  refine (cut_arg ha (by omega)).mono ?_
  rintro e w' ⟨rfl, ao, xs, ca, rfl, hxl, hxm, hxk, hxc, hx, hxv⟩
  go_wp2_with fail
  refine (cut_arg hb (by omega)).mono ?_
  rintro e w' ⟨rfl, bo, ys, cb, rfl, hyl, hym, hyk, hyc, hy, hyv⟩
  have hyp : 0 < ys.length := by
    rcases Nat.eq_zero_or_pos ys.length with h0 | h0
    · rw [List.eq_nil_of_length_eq_zero h0, Nt.val_nil] at hyv; omega
    · exact h0
  have hy0 : ((ys.length : Int) == 0) = false := by simp; intro e; subst e; simp at hyp
  have aa : Arg w' (.slice ao xs.length ca) n ka := ⟨xs, ⟨ao, ca, rfl, hxl, hxm, hxc⟩, hx.1, hxv, hxk⟩
  have ab : Arg w' (.slice bo ys.length cb) m kb := ⟨ys, ⟨bo, cb, rfl, hyl, hym, hyc⟩, hy.1, hyv, hyk⟩
  have HXv := hide hxv
  have HYv := hide hyv
  clear ha hb hxv hyv
  go_wp2_with fail
  refine (cmp_any aa ab (by omega) (by omega)).mono ?_
  rintro e w1 ⟨rfl, hb1⟩
  by_cases hlt : n < m
  · have hs : sgn n m < 0 := by unfold sgn; rw [if_pos hlt]; omega
    go_wp2_with fail
    refine (norm_any (aa.below hb1) (by omega)).mono ?_
    rintro e w2 ⟨v, rfl, hn, hb2⟩
    have hb12 := below_trans hb1 hb2
    have e1 : n / m = 0 := Int.ediv_eq_zero_of_lt hn0 hlt
    have e2 : n % m = n := Int.emod_eq_of_lt hn0 hlt
    have hnum : Num w'.heap.size w2 v (n % m) kb := by rw [e2]; exact (hn.low hb1.size).tight (by have h := Hr.out; rw [e2] at h; exact h)
    have hnil : Num w'.heap.size w2 (.slice none 0 0) (n / m) ka := by
      rw [e1]
      exact ⟨[], ⟨none, rfl, by unfold maxLen; simp, fun h => absurd h (by simp)⟩, Nt.canon_nil, rfl, by simp⟩
    have HN := hide hnum
    have HZ := hide hnil
    clear hn hnum hnil e1 e2
    go_wp2
    go_ret3
    exact ⟨_, _, rfl, HZ.out, HN.out, hb12⟩
  · have hs : ¬ sgn n m < 0 := by unfold sgn; rw [if_neg hlt]; split <;> omega
    have hs2 : decide (sgn n m < 0) = false := decide_eq_false hs
    by_cases h1 : ys.length = 1
    · obtain ⟨b1, o1, rfl, _, hc⟩ := (hyc.below hb1) (by omega)
      have g0 := hc 0 (by omega)
      rw [Nat.add_zero] at g0
      have hv1 : Nt.lb ys 0 = m := by
        have h := HYv.out
        unfold Nt.val at h
        rw [h1] at h
        simpa [Nt.vt, Nt.pw] using h
      have bm := hy.1 0
      rw [hv1] at g0 bm
      have hq := (small_yes (aa.below hb1) (by omega) hm0 bm.2)
      have r0 : 0 ≤ n % m := Int.emod_nonneg _ (by omega)
      have r1 : n % m < m := Int.emod_lt_of_pos _ hm0
      clear hc
      go_wp2_with fail
      refine hq.mono ?_
      clear hq
      rintro e w2 ⟨v, rfl, hn, hb2⟩
      go_wp2_with fail
      refine (from_any (n % m) r0 (by omega)).mono ?_
      rintro e w3 ⟨v2, rfl, hn2, hb3⟩
      have hq1 : Num w'.heap.size w3 v (n / m) ka := (hn.below hb3).low hb1.size
      have hr1 : Num w'.heap.size w3 v2 (n % m) kb := (hn2.low (Nat.le_trans hb1.size hb2.size)).tight Hr.out
      have hbb := below_trans (below_trans hb1 hb2) hb3
      have HN := hide hr1
      have HZ := hide hq1
      clear hn hn2 hq1 hr1
      go_wp2
      go_ret3
      exact ⟨_, _, rfl, HZ.out, HN.out, hbb⟩
    · obtain ⟨l, hl⟩ : ∃ l, ys.length = l + 2 := ⟨ys.length - 2, by omega⟩
      have hxy : ys.length ≤ xs.length := by
        rcases Nat.lt_or_ge xs.length ys.length with h | h
        · have := Nt.canon_lt hx.1 hy h; rw [HXv.out, HYv.out] at this; omega
        · exact h
      obtain ⟨nq, hnq⟩ : ∃ nq, xs.length + 1 = nq + ys.length := ⟨xs.length + 1 - ys.length, by omega⟩
      obtain ⟨b1, o1, rfl⟩ : ∃ b o, bo = some ⟨b, o, none⟩ := by
        obtain ⟨b, o, h, _⟩ := hyc hyp
        exact ⟨b, o, h⟩
      obtain ⟨b2, o2, hb2e, _, hc⟩ := (hyc.below hb1) hyp
      injection hb2e with hb2e
      injection hb2e with hb2e ho2e
      subst hb2e ho2e
      have g0 := hc (l + 1) (by omega)
      obtain ⟨l1, hl1⟩ : ∃ l1, l1 = l + 1 := ⟨_, rfl⟩
      rw [← hl1] at g0
      have q1 : (ys.length : Int) - 1 = (l1 : Int) := by omega
      have q2 : (l1 : Int) < (ys.length : Int) := by omega
      have q3 : ((ys.length : Int) == 1) = false := by simp; intro h; exact h1 (by omega)
      have bt := hy.1 l1
      have htop : Nt.lb ys l1 ≠ 0 := by
        have h := hy.2 (by intro e; subst e; simp at hyp)
        rw [show ys.length - 1 = l1 by omega] at h
        exact h
      have Htop := hide htop
      have Hl1 := hide hl1
      have Hl := hide hl
      have Hnq := hide hnq
      clear hc htop hl1 hl hnq
      go_wp2_with fail
      refine (leadz_any (Nt.lb ys l1) w1 bt.1 bt.2).mono ?_
      rintro e w2 ⟨k, rfl, hk, hk32, rfl⟩
      have hk0 : 0 < k := by
        rcases Nat.eq_zero_or_pos k with h | h
        · subst h
          have h2 := hk.1
          have h3 := Htop.out
          simp only [p2] at h2
          omega
        · exact h
      have hfits := raised_fits hy hyp (by rw [show ys.length - 1 = l1 by have := Hl.out; have := Hl1.out; omega]; exact hk) hk32
      obtain ⟨u, hu⟩ : ∃ u, u = 32 - k := ⟨_, rfl⟩
      rw [← hu] at hfits
      have HFits := hide hfits
      have Hk := hide hk
      have hu32 : u < 32 := by omega
      have hP := p2_pos u
      rw [← hu]
      clear hfits hk hu hk32 hk0
      go_wp2_with fail
      refine (raised_any (n := u) (ca := ca) (hxc.below hb1) hx.1 (by omega) hu32).mono ?_
      rintro e w3 ⟨g1, zs1, rfl, hg1, hr1, ho1, hzl1, hzv1, hb3⟩
      go_wp2_with fail
      refine (raised_any (n := u) (ca := cb) ((hyc.below hb1).below hb3) hy.1 (by omega) hu32).mono ?_
      rintro e w4 ⟨g2, vs0, rfl, hg2, hr2, ho2, hvl, hvv, hb4⟩
      have hzl : zs1.length = nq + ys.length := by rw [hzl1]; exact Hnq.out
      have hr1b := hr1.keeps hb4
      have hg12 : g2 ≠ g1 := by have := hr1.lt; omega
      have hvall : Nt.vt vs0 ys.length = Nt.val vs0 := Nt.vt_all ho2 (by omega) (by rw [hvv]; exact HFits.out)
      have hvt : Nt.val (vs0.take ys.length) = m * p2 u := by rw [Nt.val_take (by omega), hvall, hvv, HYv.out]
      have hvtl : (vs0.take ys.length).length = ys.length := by rw [List.length_take]; omega
      have hm1 : Nt.pw l1 ≤ m := by
        have h := Nt.canon_low hy (by intro e; subst e; simp at hyp)
        rw [HYv.out, show ys.length - 1 = l1 by have := Hl.out; have := Hl1.out; omega] at h
        exact h
      have hmP : m * 1 ≤ m * p2 u := Int.mul_le_mul_of_nonneg_left (by omega) (by omega)
      have hfirst : 0 < Nt.lb (vs0.take ys.length) (l + 1) := by
        rcases Int.lt_or_le 0 (Nt.lb (vs0.take ys.length) (l + 1)) with h | h
        · exact h
        · exfalso
          have h2 := (Nt.ok_take ho2 ys.length (l + 1)).1
          have h3 : Nt.lb (vs0.take ys.length) (l + 1) = 0 := by omega
          have h4 : Nt.val (vs0.take ys.length) = Nt.vt (vs0.take ys.length) (l + 1) := by
            have h6 := Nt.vt_succ (vs0.take ys.length) (l + 1)
            rw [h3, Int.zero_mul, Int.add_zero] at h6
            unfold Nt.val
            rw [hvtl, ← h6]
            exact congrArg _ Hl.out
          have h5 := (Nt.vt_bounds (Nt.ok_take ho2 ys.length) (l + 1)).2
          rw [← h4, hvt, ← Hl1.out] at h5
          omega
      have hzless : Nt.val zs1 < Nt.val (vs0.take ys.length) * Nt.pw nq := by
        rw [hzv1, hvt, HXv.out]
        have h1 : n < m * Nt.pw nq := by
          have h2 := aa.lt
          have h3 := Nt.val_lt hx.1
          rw [HXv.out, show xs.length = l1 + nq by have := Hl.out; have := Hl1.out; have := Hnq.out; omega, Nt.pw_add] at h3
          have h4 : Nt.pw l1 * Nt.pw nq ≤ m * Nt.pw nq := Int.mul_le_mul_of_nonneg_right hm1 (by have := Nt.pw_pos nq; omega)
          omega
        have h5 := Int.mul_lt_mul_of_pos_right h1 hP
        grind
      have hlong := long_any (w := w4) (vb := g2) (vo := 0) (bc := ys.length + 1) (g := g1) (nq := nq) (L := ys.length) (l := l) hr1b ho1 hzl hvtl Hl.out (by have := Hnq.out; omega) (row_cells_take hr2 (by omega)) (Nt.ok_take ho2 _) hg12 hfirst hzless
      rw [← Hnq.out] at hlong
      have HZ1 := hide hzv1
      have HVt := hide hvt
      have i5 : ys.length ≤ ys.length + 1 := by omega
      clear hvall hvv hvt hvtl hm1 hmP hfirst hzless hzv1 hzl1 hr1
      go_wp2_with fail
      with_reducible refine hlong.mono ?_
      clear hlong
      rintro e w5 ⟨gq, qs, zs2, rfl, hgq, hrq, hql, hqo, hrz, hzl2, hzo2, hval, hless, hon⟩
      have hR0 := Nt.val_nonneg hzo2
      obtain ⟨e1, e2, e3⟩ := div_parts (n := n) (m := m) (P := p2 u) (Q := Nt.val qs) (R := Nt.val zs2) hP hR0 (by rw [← HVt.out]; exact hless) (by rw [← HXv.out, ← HZ1.out, hval, HVt.out]) hm0
      have hb5 : Below w'.heap.size w' w5 := (below_trans (below_trans hb1 hb3) hb4).trans (hon.below (by have := hb1.size; omega) (by have := hb1.size; have := hb3.size; have := hb4.size; omega))
      have hArz : Arg w5 (.slice (some ⟨g1, 0, none⟩) (xs.length + 1) (xs.length + 1)) (Nt.val zs2) (xs.length + 1) := by
        have hzn : zs2.length = xs.length + 1 := by rw [hzl2, hzl]; exact Hnq.out.symm
        refine ⟨zs2, ⟨some ⟨g1, 0, none⟩, _, by rw [hzn], by rw [hzn]; exact Nat.le_refl _, by unfold maxLen; omega, fun _ => ⟨g1, 0, rfl, hrz.lt, fun i hi => by rw [Nat.zero_add]; exact hrz.cell hi⟩⟩, hzo2, rfl, by rw [hzn]; exact Nat.le_refl _⟩
      have hArq : Arg w5 (.slice (some ⟨gq, 0, none⟩) nq nq) (n / m) nq := by
        refine ⟨qs, ⟨some ⟨gq, 0, none⟩, _, by rw [hql], by rw [hql]; exact Nat.le_refl _, by have := Hnq.out; unfold maxLen; omega, fun _ => ⟨gq, 0, rfl, hrq.lt, fun i hi => by rw [Nat.zero_add]; exact hrq.cell hi⟩⟩, hqo, e1, by rw [hql]; exact Nat.le_refl _⟩
      have E2 := hide e2
      have Hzl := hide hzl
      clear e1 e2 e3 hval hless hql hzl2 hon hzl
      go_wp2_with fail
      with_reducible refine (shr_some hArz (by omega) hu32).mono ?_
      rintro e w6 ⟨v6, b6, rfl, hn6, hb6⟩
      go_wp2_with fail
      with_reducible refine (norm_any (hArq.below hb6) (by have := Hnq.out; omega)).mono ?_
      rintro e w7 ⟨v7, rfl, hn7, hb7⟩
      have hq1 : Num w'.heap.size w7 v7 (n / m) ka := (hn7.low (Nat.le_trans hb5.size hb6.size)).tight Hq.out
      have hr1 : Num w'.heap.size w7 v6 (n % m) kb := by
        have h := (hn6.below hb7).low hb5.size
        rw [E2.out] at h
        exact h.tight Hr.out
      have hbb := below_trans (below_trans hb5 hb6) hb7
      have HN := hide hr1
      have HZ := hide hq1
      clear hn6 hn7 hq1 hr1
      go_wp2
      go_ret3
      exact ⟨_, _, rfl, HZ.out, HN.out, hbb⟩

end Go.Proofs.YtmpdkeafbjibpaaDoor
