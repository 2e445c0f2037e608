/- DivFar, DvKit, DvOver, RBy, RFr, ByWalk -/
import Derived.Test.YthoaibcoklgnhaaGreatDoorDiv
import Derived.Test.YthoaibcoklgnhaaGreatDoorQMem
import Derived.Test.YthoaibcoklgnhaaGreatDoorTwin
import Derived.Test.YthoaibcoklgnhaaGreatDoorQbM
import Derived.Test.YthoaibcoklgnhaaGreatDoorRefA
import Derived.Test.YthoaibcoklgnhaaGreatDoorAppZero
import Derived.Laws.BytesArg
import Derived.Deep.LoopGhost
import Derived.Test.YthoaibcoklgnhaaGreatDoorSame
import Derived.Test.YthoaibcoklgnhaaGreatDoorQLives
namespace Go.Proofs.YthoaibcoklgnhaaGreatDoor
open Go.RowKit

/-- two lists with room lie in unlike blocks -/
def Sep (q r : Value) : Prop := ∀ a n c a' n' c', q = .slice (some a) n (c + 1) → r = .slice (some a') n' (c' + 1) → a.block ≠ a'.block
theorem Sep.symm {q r : Value} (h : Sep q r) : Sep r q := fun a n c a' n' c' e e' g => h a' n' c' a n c e' e g.symm
theorem sep_none (n : Nat) (r : Value) : Sep (.slice none n 0) r := fun a n c a' n' c' e _ => by cases e
theorem sep_of {B B' : Nat} {w w' : World} {q r : Value} {x y : Int} {k k' : Nat} (hq : Num B w q x k) (hr : Num B' w' r y k') (h : w.heap.size ≤ B') : Sep q r := by
  intro a n c a' n' c' e e' g
  obtain ⟨zs, ⟨ao, e1, _, h1⟩, _⟩ := hq
  obtain ⟨zs', ⟨ao', e1', _, h1'⟩, _⟩ := hr
  rw [e1] at e
  rw [e1'] at e'
  injection e with e2 _ e3
  injection e' with e2' _ e3'
  obtain ⟨gb, rest, hg, _, hrow⟩ := h1 (by omega)
  obtain ⟨gb', rest', hg', hB, hrow'⟩ := h1' (by omega)
  rw [hg] at e2
  rw [hg'] at e2'
  injection e2 with e2
  injection e2' with e2'
  have l := hrow.lt
  rw [← e2, ← e2'] at g
  simp only at g
  omega

set_option maxRecDepth 20000 in
set_option maxHeartbeats 4000000 in
theorem div_far {w : World} {va vb : Value} {n m : Int} {ka kb : Nat} (ha : Arg w va n ka) (hb : Arg w vb m kb) (hka : ka ≤ 549755813888) (hkb : kb ≤ 549755813888) (hm0 : 0 < m) :
    Calls Tryz.prog 21 #[va, vb] w fun e w' => ∃ q r, e = .returned (.tuple #[q, r, .bool true]) ∧ Num w.heap.size w' q (n / m) ka ∧ Num w.heap.size w' r (n % m) kb ∧ Sep q r ∧ Below w.heap.size w w' := by
  have hn0 := ha.nonneg
  have hnlt := ha.lt
  have hmlt := hb.lt
  have hqlt : n / m < Nt.pw ka := Int.lt_of_le_of_lt (Int.ediv_le_self _ hn0) hnlt
  have hrlt : n % m < Nt.pw kb := Int.lt_trans (Int.emod_lt_of_pos _ hm0) hmlt
  have Hq := hide hqlt
  have Hr := hide hrlt
  clear hqlt hrlt hnlt hmlt
  go_enter Tryz.func21, Tryz.ntmps21
  go_wp2_with fail
  refine (cut_arg ha (by omega)).mono ?_
  rintro e w' ⟨rfl, ao, xs, ca, rfl, hxl, hxm, hxk, hxc, hx, hxv⟩
  go_wp2_with fail
  refine (cut_arg hb (by omega)).mono ?_
  rintro e w' ⟨rfl, bo, ys, cb, rfl, hyl, hym, hyk, hyc, hy, hyv⟩
  have hyp : 0 < ys.length := by
    rcases Nat.eq_zero_or_pos ys.length with h0 | h0
    · rw [List.eq_nil_of_length_eq_zero h0, Nt.val_nil] at hyv; omega
    · exact h0
  have hy0 : ((ys.length : Int) == 0) = false := by simp; intro e; subst e; simp at hyp
  have aa : Arg w' (.slice ao xs.length ca) n ka := ⟨xs, ⟨ao, ca, rfl, hxl, hxm, hxc⟩, hx.1, hxv, hxk⟩
  have ab : Arg w' (.slice bo ys.length cb) m kb := ⟨ys, ⟨bo, cb, rfl, hyl, hym, hyc⟩, hy.1, hyv, hyk⟩
  have HXv := hide hxv
  have HYv := hide hyv
  clear ha hb hxv hyv
  go_wp2_with fail
  refine (cmp_any aa ab (by omega) (by omega)).mono ?_
  rintro e w1 ⟨rfl, hb1⟩
  by_cases hlt : n < m
  · have hs : sgn n m < 0 := by unfold sgn; rw [if_pos hlt]; omega
    go_wp2_with fail
    refine (norm_any (aa.below hb1) (by omega)).mono ?_
    rintro e w2 ⟨v, rfl, hn, hb2⟩
    have hb12 := below_trans hb1 hb2
    have e1 : n / m = 0 := Int.ediv_eq_zero_of_lt hn0 hlt
    have e2 : n % m = n := Int.emod_eq_of_lt hn0 hlt
    have hnum : Num w'.heap.size w2 v (n % m) kb := by rw [e2]; exact (hn.low hb1.size).tight (by have h := Hr.out; rw [e2] at h; exact h)
    have hnil : Num w'.heap.size w2 (.slice none 0 0) (n / m) ka := by
      rw [e1]
      exact ⟨[], ⟨none, rfl, by unfold maxLen; simp, fun h => absurd h (by simp)⟩, Nt.canon_nil, rfl, by simp⟩
    have HN := hide hnum
    have HZ := hide hnil
    clear hn hnum hnil e1 e2
    go_wp2
    go_ret3
    exact ⟨_, _, rfl, HZ.out, HN.out, sep_none _ _, hb12⟩
  · have hs : ¬ sgn n m < 0 := by unfold sgn; rw [if_neg hlt]; split <;> omega
    have hs2 : decide (sgn n m < 0) = false := decide_eq_false hs
    by_cases h1 : ys.length = 1
    · obtain ⟨b1, o1, rfl, _, hc⟩ := (hyc.below hb1) (by omega)
      have g0 := hc 0 (by omega)
      rw [Nat.add_zero] at g0
      have hv1 : Nt.lb ys 0 = m := by
        have h := HYv.out
        unfold Nt.val at h
        rw [h1] at h
        simpa [Nt.vt, Nt.pw] using h
      have bm := hy.1 0
      rw [hv1] at g0 bm
      have hq := (small_yes (aa.below hb1) (by omega) hm0 bm.2)
      have r0 : 0 ≤ n % m := Int.emod_nonneg _ (by omega)
      have r1 : n % m < m := Int.emod_lt_of_pos _ hm0
      clear hc
      go_wp2_with fail
      refine hq.mono ?_
      clear hq
      rintro e w2 ⟨v, rfl, hn, hb2⟩
      go_wp2_with fail
      refine (from_any (n % m) r0 (by omega)).mono ?_
      rintro e w3 ⟨v2, rfl, hn2, hb3⟩
      have hq1 : Num w'.heap.size w3 v (n / m) ka := (hn.below hb3).low hb1.size
      have hr1 : Num w'.heap.size w3 v2 (n % m) kb := (hn2.low (Nat.le_trans hb1.size hb2.size)).tight Hr.out
      have hbb := below_trans (below_trans hb1 hb2) hb3
      have HN := hide hr1
      have HZ := hide hq1
      have HSp := hide (sep_of hn hn2 (Nat.le_refl _))
      clear hn hn2 hq1 hr1
      go_wp2
      go_ret3
      exact ⟨_, _, rfl, HZ.out, HN.out, HSp.out, hbb⟩
    · obtain ⟨l, hl⟩ : ∃ l, ys.length = l + 2 := ⟨ys.length - 2, by omega⟩
      have hxy : ys.length ≤ xs.length := by
        rcases Nat.lt_or_ge xs.length ys.length with h | h
        · have := Nt.canon_lt hx.1 hy h; rw [HXv.out, HYv.out] at this; omega
        · exact h
      obtain ⟨nq, hnq⟩ : ∃ nq, xs.length + 1 = nq + ys.length := ⟨xs.length + 1 - ys.length, by omega⟩
      obtain ⟨b1, o1, rfl⟩ : ∃ b o, bo = some ⟨b, o, none⟩ := by
        obtain ⟨b, o, h, _⟩ := hyc hyp
        exact ⟨b, o, h⟩
      obtain ⟨b2, o2, hb2e, _, hc⟩ := (hyc.below hb1) hyp
      injection hb2e with hb2e
      injection hb2e with hb2e ho2e
      subst hb2e ho2e
      have g0 := hc (l + 1) (by omega)
      obtain ⟨l1, hl1⟩ : ∃ l1, l1 = l + 1 := ⟨_, rfl⟩
      rw [← hl1] at g0
      have q1 : (ys.length : Int) - 1 = (l1 : Int) := by omega
      have q2 : (l1 : Int) < (ys.length : Int) := by omega
      have q3 : ((ys.length : Int) == 1) = false := by simp; intro h; exact h1 (by omega)
      have bt := hy.1 l1
      have htop : Nt.lb ys l1 ≠ 0 := by
        have h := hy.2 (by intro e; subst e; simp at hyp)
        rw [show ys.length - 1 = l1 by omega] at h
        exact h
      have Htop := hide htop
      have Hl1 := hide hl1
      have Hl := hide hl
      have Hnq := hide hnq
      clear hc htop hl1 hl hnq
      go_wp2_with fail
      refine (leadz_any (Nt.lb ys l1) w1 bt.1 bt.2).mono ?_
      rintro e w2 ⟨k, rfl, hk, hk32, rfl⟩
      have hk0 : 0 < k := by
        rcases Nat.eq_zero_or_pos k with h | h
        · subst h
          have h2 := hk.1
          have h3 := Htop.out
          simp only [p2] at h2
          omega
        · exact h
      have hfits := raised_fits hy hyp (by rw [show ys.length - 1 = l1 by have := Hl.out; have := Hl1.out; omega]; exact hk) hk32
      obtain ⟨u, hu⟩ : ∃ u, u = 32 - k := ⟨_, rfl⟩
      rw [← hu] at hfits
      have HFits := hide hfits
      have Hk := hide hk
      have hu32 : u < 32 := by omega
      have hP := p2_pos u
      rw [← hu]
      clear hfits hk hu hk32 hk0
      go_wp2_with fail
      refine (raised_any (n := u) (ca := ca) (hxc.below hb1) hx.1 (by omega) hu32).mono ?_
      rintro e w3 ⟨g1, zs1, rfl, hg1, hr1, ho1, hzl1, hzv1, hb3⟩
      go_wp2_with fail
      refine (raised_any (n := u) (ca := cb) ((hyc.below hb1).below hb3) hy.1 (by omega) hu32).mono ?_
      rintro e w4 ⟨g2, vs0, rfl, hg2, hr2, ho2, hvl, hvv, hb4⟩
      have hzl : zs1.length = nq + ys.length := by rw [hzl1]; exact Hnq.out
      have hr1b := hr1.keeps hb4
      have hg12 : g2 ≠ g1 := by have := hr1.lt; omega
      have hvall : Nt.vt vs0 ys.length = Nt.val vs0 := Nt.vt_all ho2 (by omega) (by rw [hvv]; exact HFits.out)
      have hvt : Nt.val (vs0.take ys.length) = m * p2 u := by rw [Nt.val_take (by omega), hvall, hvv, HYv.out]
      have hvtl : (vs0.take ys.length).length = ys.length := by rw [List.length_take]; omega
      have hm1 : Nt.pw l1 ≤ m := by
        have h := Nt.canon_low hy (by intro e; subst e; simp at hyp)
        rw [HYv.out, show ys.length - 1 = l1 by have := Hl.out; have := Hl1.out; omega] at h
        exact h
      have hmP : m * 1 ≤ m * p2 u := Int.mul_le_mul_of_nonneg_left (by omega) (by omega)
      have hfirst : 0 < Nt.lb (vs0.take ys.length) (l + 1) := by
        rcases Int.lt_or_le 0 (Nt.lb (vs0.take ys.length) (l + 1)) with h | h
        · exact h
        · exfalso
          have h2 := (Nt.ok_take ho2 ys.length (l + 1)).1
          have h3 : Nt.lb (vs0.take ys.length) (l + 1) = 0 := by omega
          have h4 : Nt.val (vs0.take ys.length) = Nt.vt (vs0.take ys.length) (l + 1) := by
            have h6 := Nt.vt_succ (vs0.take ys.length) (l + 1)
            rw [h3, Int.zero_mul, Int.add_zero] at h6
            unfold Nt.val
            rw [hvtl, ← h6]
            exact congrArg _ Hl.out
          have h5 := (Nt.vt_bounds (Nt.ok_take ho2 ys.length) (l + 1)).2
          rw [← h4, hvt, ← Hl1.out] at h5
          omega
      have hzless : Nt.val zs1 < Nt.val (vs0.take ys.length) * Nt.pw nq := by
        rw [hzv1, hvt, HXv.out]
        have h1 : n < m * Nt.pw nq := by
          have h2 := aa.lt
          have h3 := Nt.val_lt hx.1
          rw [HXv.out, show xs.length = l1 + nq by have := Hl.out; have := Hl1.out; have := Hnq.out; omega, Nt.pw_add] at h3
          have h4 : Nt.pw l1 * Nt.pw nq ≤ m * Nt.pw nq := Int.mul_le_mul_of_nonneg_right hm1 (by have := Nt.pw_pos nq; omega)
          omega
        have h5 := Int.mul_lt_mul_of_pos_right h1 hP
        grind
      have hlong := long_any (w := w4) (vb := g2) (vo := 0) (bc := ys.length + 1) (g := g1) (nq := nq) (L := ys.length) (l := l) hr1b ho1 hzl hvtl Hl.out (by have := Hnq.out; omega) (row_cells_take hr2 (by omega)) (Nt.ok_take ho2 _) hg12 hfirst hzless
      rw [← Hnq.out] at hlong
      have HZ1 := hide hzv1
      have HVt := hide hvt
      have i5 : ys.length ≤ ys.length + 1 := by omega
      clear hvall hvv hvt hvtl hm1 hmP hfirst hzless hzv1 hzl1 hr1
      go_wp2_with fail
      with_reducible refine hlong.mono ?_
      clear hlong
      rintro e w5 ⟨gq, qs, zs2, rfl, hgq, hrq, hql, hqo, hrz, hzl2, hzo2, hval, hless, hon⟩
      have hR0 := Nt.val_nonneg hzo2
      obtain ⟨e1, e2, e3⟩ := div_parts (n := n) (m := m) (P := p2 u) (Q := Nt.val qs) (R := Nt.val zs2) hP hR0 (by rw [← HVt.out]; exact hless) (by rw [← HXv.out, ← HZ1.out, hval, HVt.out]) hm0
      have hb5 : Below w'.heap.size w' w5 := (below_trans (below_trans hb1 hb3) hb4).trans (hon.below (by have := hb1.size; omega) (by have := hb1.size; have := hb3.size; have := hb4.size; omega))
      have hArz : Arg w5 (.slice (some ⟨g1, 0, none⟩) (xs.length + 1) (xs.length + 1)) (Nt.val zs2) (xs.length + 1) := by
        have hzn : zs2.length = xs.length + 1 := by rw [hzl2, hzl]; exact Hnq.out.symm
        refine ⟨zs2, ⟨some ⟨g1, 0, none⟩, _, by rw [hzn], by rw [hzn]; exact Nat.le_refl _, by unfold maxLen; omega, fun _ => ⟨g1, 0, rfl, hrz.lt, fun i hi => by rw [Nat.zero_add]; exact hrz.cell hi⟩⟩, hzo2, rfl, by rw [hzn]; exact Nat.le_refl _⟩
      have hArq : Arg w5 (.slice (some ⟨gq, 0, none⟩) nq nq) (n / m) nq := by
        refine ⟨qs, ⟨some ⟨gq, 0, none⟩, _, by rw [hql], by rw [hql]; exact Nat.le_refl _, by have := Hnq.out; unfold maxLen; omega, fun _ => ⟨gq, 0, rfl, hrq.lt, fun i hi => by rw [Nat.zero_add]; exact hrq.cell hi⟩⟩, hqo, e1, by rw [hql]; exact Nat.le_refl _⟩
      have E2 := hide e2
      have Hzl := hide hzl
      clear e1 e2 e3 hval hless hql hzl2 hon hzl
      go_wp2_with fail
      with_reducible refine (shr_some hArz (by omega) hu32).mono ?_
      rintro e w6 ⟨v6, b6, rfl, hn6, hb6⟩
      go_wp2_with fail
      with_reducible refine (norm_any (hArq.below hb6) (by have := Hnq.out; omega)).mono ?_
      rintro e w7 ⟨v7, rfl, hn7, hb7⟩
      have hq1 : Num w'.heap.size w7 v7 (n / m) ka := (hn7.low (Nat.le_trans hb5.size hb6.size)).tight Hq.out
      have hr1 : Num w'.heap.size w7 v6 (n % m) kb := by
        have h := (hn6.below hb7).low hb5.size
        rw [E2.out] at h
        exact h.tight Hr.out
      have hbb := below_trans (below_trans hb5 hb6) hb7
      have HN := hide hr1
      have HZ := hide hq1
      have HSp := hide (sep_of hn6 hn7 (Nat.le_refl _)).symm
      clear hn6 hn7 hq1 hr1
      go_wp2
      go_ret3
      exact ⟨_, _, rfl, HZ.out, HN.out, HSp.out, hbb⟩

end Go.Proofs.YthoaibcoklgnhaaGreatDoor

namespace Go.Proofs.YthoaibcoklgnhaaGreatDoor
open Go.RowKit

/-- every list of limbs stays as it is -/
def Rws (w w' : World) : Prop := ∀ k zs, Row .u32 52 w k zs → Row .u32 52 w' k zs
theorem Rws.refl (w : World) : Rws w w := fun _ _ h => h
theorem Rws.trans {a b c : World} (h : Rws a b) (k : Rws b c) : Rws a c := fun _ _ r => k _ _ (h _ _ r)
theorem Rws.below {w w' : World} (h : Below w.heap.size w w') : Rws w w' := fun _ _ r => r.keeps h
theorem Rws.off {base g : Nat} {lv : Value} {ps : List (Value × Value)} {w w' : World} (h : Off g lv w w') (hk : Kept base w g lv ps) : Rws w w' := fun _ _ r => h.row hk r
theorem Rws.lies {w w' : World} (h : Rws w w') {v : Value} {xs : List Int} {c : Nat} (hl : Lies w v xs c) : Lies w' v xs c := by
  obtain ⟨ao, e, h1, h2, h3⟩ := hl
  refine ⟨ao, e, h1, h2, fun hc => ?_⟩
  obtain ⟨g, rest, e1, hr, h4⟩ := h3 hc
  exact ⟨g, rest, e1, h _ _ hr, h4⟩
theorem Rws.twin {w w' : World} (h : Rws w w') {B : Nat} {v : Value} {xs : List Int} (ht : Twin B w v xs) : Twin B w' v xs := by
  obtain ⟨g, h1, h2, h3, h4⟩ := ht
  exact ⟨g, h1, h2, h3, h _ _ h4⟩
theorem Rws.made {w w' : World} (h : Rws w w') {B : Nat} {v : Value} {zs : List Int} (hm : Made .u32 52 B w v zs) : Made .u32 52 B w' v zs := by
  obtain ⟨ao, rfl, h2, h3⟩ := hm
  refine ⟨ao, rfl, h2, fun hp => ?_⟩
  obtain ⟨g, rest, e1, hB, hr⟩ := h3 hp
  exact ⟨g, rest, e1, hB, h _ _ hr⟩
theorem Rws.num {w w' : World} (h : Rws w w') {B : Nat} {v : Value} {n : Int} {k : Nat} (hn : Num B w v n k) : Num B w' v n k := by
  obtain ⟨zs, h1, h2⟩ := hn
  exact ⟨zs, h.made h1, h2⟩
theorem Rws.mem {w w' : World} (h : Rws w w') {base : Nat} {all : List Value} (hm : Mem base w all) : Mem base w' all :=
  ⟨fun v hv => by obtain ⟨xs, c, h1, h2⟩ := hm.each v hv; exact ⟨xs, c, h.lies h1, h2⟩, hm.far, hm.above⟩
theorem Lies.arg {w : World} {v : Value} {xs : List Int} {c k : Nat} (h : Lies w v xs c) (ho : Nt.Ok xs) (hk : xs.length ≤ k) : Arg w v (Nt.val xs) k := ⟨xs, h.reads, ho, rfl, hk⟩
theorem Reads.argk {w : World} {v : Value} {xs : List Int} {k : Nat} (h : Reads .u32 w v xs) (ho : Nt.Ok xs) (hk : xs.length ≤ k) : Arg w v (Nt.val xs) k := ⟨xs, h, ho, rfl, hk⟩

theorem blk_form {v : Value} {k : Nat} (h : blk v = some k) : ∃ a n c, v = .slice (some a) n (c + 1) ∧ a.block = k := by
  unfold blk at h
  split at h
  · exact ⟨_, _, _, rfl, Option.some.inj h⟩
  · cases h
theorem Sep.far {q r : Value} (h : Sep q r) : Far q r := by
  intro k hq hr
  obtain ⟨a, n, c, e, e1⟩ := blk_form hq
  obtain ⟨a', n', c', e', e1'⟩ := blk_form hr
  exact h _ _ _ _ _ _ e e' (e1.trans e1'.symm)

theorem Mem.perm {base : Nat} {w : World} {l l' : List Value} (h : Mem base w l) (hp : l.Perm l') : Mem base w l' :=
  ⟨fun v hv => h.each v (hp.mem_iff.2 hv), (hp.pairwise_iff Far.symm).1 h.far, fun v hv => h.above v (hp.mem_iff.2 hv)⟩
/-- two new answers, in unlike memory -/
theorem Mem.snoc2 {base : Nat} {w w' : World} {all : List Value} {q r : Value} {n m : Int} {k k' : Nat} (h : Mem base w all) (hb : Below w.heap.size w w') (hq : Num w.heap.size w' q n k) (hr : Num w.heap.size w' r m k') (hs : Sep q r) (hk : k ≤ 4000000) (hk' : k' ≤ 4000000) (hB : base ≤ w.heap.size) : Mem base w' (all ++ [q] ++ [r]) := by
  have h1 := h.snoc hb hq hk hB
  have h2 := h.snoc hb hr hk' hB
  refine ⟨fun u hu => ?_, List.pairwise_append.2 ⟨h1.far, by simp, fun u hu v' hv' => ?_⟩, fun u hu j hj => ?_⟩
  · rcases List.mem_append.1 hu with hu | hu
    · exact h1.each u hu
    · exact h2.each u (List.mem_append.2 (.inr hu))
  · rcases List.mem_append.1 hu with hu | hu
    · exact (List.pairwise_append.1 h2.far).2.2 u hu v' hv'
    · rw [List.mem_singleton.1 hv', List.mem_singleton.1 hu]
      exact hs.far
  · rcases List.mem_append.1 hu with hu | hu
    · exact h1.above u hu j hj
    · exact h2.above u (List.mem_append.2 (.inr hu)) j hj
theorem Mem.one {base : Nat} {w : World} {v : Value} {xs : List Int} {c : Nat} (h : Lies w v xs c) (hl : xs.length ≤ 4000000) (hb : ∀ k, blk v = some k → base ≤ k) : Mem base w [v] :=
  ⟨fun u hu => by rw [List.mem_singleton.1 hu]; exact ⟨xs, c, h, hl⟩, by simp, fun u hu => by rw [List.mem_singleton.1 hu]; exact hb⟩
/-- nothing said is no answer in memory -/
theorem Mem.nils {base : Nat} {w : World} {all : List Value} (h : Mem base w all) : Mem base w (all ++ [.slice none 0 0] ++ [.slice none 0 0]) := by
  have hf : ∀ u : Value, Far u (.slice none 0 0) := fun u k _ hk => by rw [blk_none] at hk; cases hk
  have hl : ∃ xs c, Lies w (.slice none 0 0) xs c ∧ xs.length ≤ 4000000 := ⟨[], 0, ⟨none, rfl, Nat.le_refl _, by unfold maxLen; omega, fun h => absurd h (by omega)⟩, by simp⟩
  refine ⟨fun u hu => ?_, ?_, fun u hu j hj => ?_⟩
  · simp only [List.append_assoc, List.mem_append, List.mem_cons, List.not_mem_nil, or_false] at hu
    rcases hu with hu | hu | hu
    · exact h.each u hu
    · rw [hu]; exact hl
    · rw [hu]; exact hl
  · refine List.pairwise_append.2 ⟨List.pairwise_append.2 ⟨h.far, by simp, fun u _ v hv => ?_⟩, by simp, fun u _ v hv => ?_⟩
    · rw [List.mem_singleton.1 hv]; exact hf u
    · rw [List.mem_singleton.1 hv]; exact hf u
  · simp only [List.append_assoc, List.mem_append, List.mem_cons, List.not_mem_nil, or_false] at hu
    rcases hu with hu | hu | hu
    · exact h.above u hu j hj
    · rw [hu, blk_none] at hj; cases hj
    · rw [hu, blk_none] at hj; cases hj

/-- one list's memory is written over -/
theorem Mem.wrote {base g : Nat} {w w' : World} {all : List Value} {os zs : List Int} (h : Mem base w all) (ho : Only g w w') (hr : Row .u32 52 w g os) (hr' : Row .u32 52 w' g zs) (hl : zs.length = os.length) : Mem base w' all := by
  refine ⟨fun v hv => ?_, h.far, h.above⟩
  obtain ⟨xs, c, h1, h2⟩ := h.each v hv
  by_cases hg : blk v = some g
  · obtain ⟨e, rest, hrow, hc⟩ := h1.own hg
    have hc2 := h1
    obtain ⟨_, _, h3, h4, _⟩ := hc2
    have hlen : (xs ++ rest).length = os.length := by
      unfold Row at hrow hr
      rw [hr] at hrow
      injection hrow with e1
      injection e1 with e1
      have e2 := congrArg Array.size e1
      simpa using e2.symm
    have hx : xs.length ≤ zs.length := by rw [hl, ← hlen]; simp
    refine ⟨zs.take xs.length, c, ⟨_, by rw [e, List.length_take, Nat.min_eq_left hx], by rw [List.length_take, Nat.min_eq_left hx]; exact h3, h4, fun _ => ⟨g, zs.drop xs.length, rfl, by rw [List.take_append_drop]; exact hr', by rw [List.take_append_drop, hl, ← hlen]; exact hc⟩⟩, by rw [List.length_take, Nat.min_eq_left hx]; exact h2⟩
  · refine ⟨xs, c, h1.keep fun k hk => ?_, h2⟩
    exact ho.block k (h1.lt hk) (fun e => hg (by rw [← e]; exact hk))
theorem Only.grownBy {g : Nat} {w w' : World} (h : Only g w w') : w.grownBy w' (some g) :=
  ⟨h.os, h.tape, h.output, h.size, fun k hk hn => h.block k hk (fun e => hn (by rw [e]))⟩

end Go.Proofs.YthoaibcoklgnhaaGreatDoor

namespace Go.Proofs.YthoaibcoklgnhaaGreatDoor
open Go.RowKit

theorem ok_nil : Nt.Ok [] := fun i => by unfold Nt.lb; simp
theorem ok_app {xs : List Int} {z : Int} (h : Nt.Ok xs) (hz : 0 ≤ z ∧ z < 4294967296) : Nt.Ok (xs ++ [z]) := by
  intro i
  rcases Nat.lt_or_ge i xs.length with hi | hi
  · rw [lb_append_left hi]; exact h i
  · unfold Nt.lb
    rw [List.getD_eq_getElem?_getD, List.getElem?_append_right hi]
    cases hk : i - xs.length with
    | zero => simpa using hz
    | succ k => simp
theorem lies_nil (w : World) : Lies w (.slice none 0 0) [] 0 := ⟨none, rfl, Nat.le_refl _, by unfold maxLen; omega, fun h => absurd h (by omega)⟩
theorem lies_over {w : World} {g n : Nat} {zs : List Int} (h : Row .u32 52 w g zs) (hl : zs.length = n + 1) (hm : n + 1 ≤ maxLen) : Lies w (.slice (some ⟨g, 0, none⟩) n (n + 1)) (zs.take n) (n + 1) := by
  have e : (zs.take n).length = n := by rw [List.length_take]; omega
  exact ⟨_, by rw [e], by rw [e]; omega, hm, fun _ => ⟨g, zs.drop n, rfl, by rw [List.take_append_drop]; exact h, by rw [List.take_append_drop]; omega⟩⟩
theorem only_lies {g : Nat} {w w' : World} (h : Only g w w') {v : Value} {xs : List Int} {c : Nat} (hl : Lies w v xs c) (hn : ¬ blk v = some g) : Lies w' v xs c :=
  hl.keep fun k hk => h.block k (hl.lt hk) (fun e => hn (by rw [← e]; exact hk))

set_option maxRecDepth 20000 in
set_option maxHeartbeats 4000000 in
theorem over_any {wa w : World} {g n : Nat} {old ys : List Int} {bv : Value} (hr : Row .u32 52 w g old) (ho : Nt.Ok old) (hl : old.length = n + 1) (hn : n ≤ 1048576) (hb : Reads .u32 wa bv ys) (oy : Nt.Ok ys) (hw : Below wa.heap.size wa w) (hg : wa.heap.size ≤ g) :
    Calls Tryz.prog 10 #[.slice (some ⟨g, 0, none⟩) n (n + 1), bv] w fun e w' => e = .returned (.tuple #[]) ∧ ∃ zs, zs.length = n + 1 ∧ Nt.Ok zs ∧ Row .u32 52 w' g zs ∧ Only g w w' := by
  obtain ⟨bo, cb, rfl, hyl, hym, hyc⟩ := hb
  unfold maxLen at hym
  go_enter Tryz.func10, Tryz.ntmps10
  go_wp2
  go_loopw [4] (fun si wr => ∃ (k : Nat) (zs : List Int), k ≤ n ∧ si = .int .i64 k ∧ zs.length = n + 1 ∧ Nt.Ok zs ∧ Row .u32 52 wr g zs ∧ Only g w wr ∧ Below wa.heap.size wa wr) (fun si _ => n - (intOf si).toNat)
  case atStart => exact ⟨0, old, by omega, rfl, hl, ho, hr, Only.refl _ _, hw⟩
  case round =>
    obtain ⟨k, zs, hk, rfl, hzl, hzo, hrow, hon, hbr⟩ := hrel
    clear hr ho hl hw
    have Hzl := hide hzl
    clear hzl
    by_cases hkl : k < n
    · by_cases hy0 : 0 < ys.length
      · obtain ⟨b, off, rfl, hbl, hc⟩ := (hyc.below hbr) hy0
        obtain ⟨j, hj⟩ : ∃ j, j = k % ys.length := ⟨_, rfl⟩
        have hjl : j < ys.length := by rw [hj]; exact Nat.mod_lt _ hy0
        have hjk : (k : Int) % (ys.length : Int) = (j : Int) := by rw [hj]; simp
        have g1 := hc j hjl
        have g2 := hrow.cell (i := k) (by have := Hzl.out; omega)
        have hfz := hrow.frozen k
        have y0 : ¬ (ys.length : Int) = 0 := by omega
        have y1 : (0 : Int) < (ys.length : Int) := by omega
        have j1 : (j : Int) < (ys.length : Int) := by omega
        clear hc hyc hj
        go_wp2
        go_roundw
        case rel => exact ⟨k + 1, zs.set k (Nt.lb ys j), by omega, by go_num, by rw [List.length_set, Hzl.out], Nt.ok_set hzo (oy j), hrow.set _ _, hon.set _ _, hbr.setCell (p := ⟨g, k, none⟩) hg _⟩
        case measure => simp [intOf]; omega
      · have hye : ys.length = 0 := by omega
        have HZ : Hid (zs.length = n + 1 ∧ Nt.Ok zs ∧ Row .u32 52 wr g zs ∧ Only g w wr) := hide ⟨Hzl.out, hzo, hrow, hon⟩
        clear hzo hrow hon hyc
        go_wp2
        go_end0
        exact ⟨rfl, zs, HZ.out⟩
    · have HZ : Hid (zs.length = n + 1 ∧ Nt.Ok zs ∧ Row .u32 52 wr g zs ∧ Only g w wr) := hide ⟨Hzl.out, hzo, hrow, hon⟩
      clear hzo hrow hon hyc
      go_wp2
      go_end0
      exact ⟨rfl, zs, HZ.out⟩

end Go.Proofs.YthoaibcoklgnhaaGreatDoor

namespace Go.Proofs.YthoaibcoklgnhaaGreatDoor
open Go.RowKit

/-- bytes, the highest first, spell a number with no nought ahead -/
def BE (zs : List Int) (A : Int) : Prop := Nb.Canon zs.reverse ∧ Nb.val zs.reverse = A
theorem be_nil : BE [] 0 := ⟨Nb.canon_nil, rfl⟩
theorem be_zero {A : Int} (h : BE [] A) : A = 0 := h.2.symm
theorem be_more {zs : List Int} {A x : Int} (h : BE zs A) (hx : 0 ≤ x ∧ x < 256) (hn : ¬ (zs = [] ∧ x = 0)) : BE (zs ++ [x]) (A * 256 + x) := by
  unfold BE
  rw [List.reverse_append, List.reverse_singleton, List.singleton_append]
  refine ⟨⟨nb_ok_cons.2 ⟨hx, h.1.1⟩, fun _ => ?_⟩, by rw [nb_val_cons, h.2]; omega⟩
  by_cases hz : zs = []
  · have hx0 : x ≠ 0 := fun e => hn ⟨hz, e⟩
    rw [hz]
    simpa [Nt.lb] using hx0
  · have h1 := h.1.2 (by simpa using hz)
    have hp := List.length_pos_iff.2 hz
    have e : Nt.lb (x :: zs.reverse) ((x :: zs.reverse).length - 1) = Nt.lb zs.reverse (zs.reverse.length - 1) := by
      obtain ⟨m, hm⟩ : ∃ m, zs.length = m + 1 := ⟨zs.length - 1, by omega⟩
      simp [Nt.lb, hm]
    rw [e]; exact h1
theorem be_str {zs : List Int} {A : Int} (h : BE zs A) : Bstr A (strOfNums zs) := ⟨zs.reverse, h.1, h.2, by rw [List.reverse_reverse]⟩
theorem nt_val_cons (x : Int) (xs : List Int) : Nt.val (x :: xs) = x + 4294967296 * Nt.val xs := by
  have key : ∀ n, Nt.vt (x :: xs) (n + 1) = x + 4294967296 * Nt.vt xs n := by
    intro n
    induction n with
    | zero => simp [Nt.vt, Nt.lb, Nt.pw]
    | succ n ih =>
      rw [Nt.vt_succ, ih, Nt.vt_succ, Nt.pw_succ]
      have e : Nt.lb (x :: xs) (n + 1) = Nt.lb xs n := by simp [Nt.lb]
      rw [e]
      grind
  show Nt.vt (x :: xs) (xs.length + 1) = _
  rw [key]; rfl
theorem val_drop_succ {xs : List Int} {i : Nat} (h : i < xs.length) : Nt.val (xs.drop i) = Nt.lb xs i + 4294967296 * Nt.val (xs.drop (i + 1)) := by
  rw [List.drop_eq_getElem_cons h, nt_val_cons]
  simp [Nt.lb, h]
theorem own_grows {w0 w w' : World} {B : Nat} {E : TypeId} {v : Value} {n : Nat} {xs : List Value} (h : Below B w0 w) (hB : B ≤ w.heap.size) (ho : w.ownsRow B E 1 v n xs) (hg : w.grownBy w' v.ownBlock) : Below B w0 w' :=
  h.grown hg hB (fun k hk => (ho.lt k hk).1)
theorem cell_one (w : World) (E : TypeId) (k : IntKind) (x : Int) : Cells k (w.alloc (.cells #[.int k x] E)) (some ⟨w.heap.size, 0, none⟩) [x] := by
  intro _
  refine ⟨w.heap.size, 0, rfl, by simp, fun i hi => ?_⟩
  have hi0 : i = 0 := by simpa using hi
  subst hi0
  rw [World.cell?_alloc_at _ _ _ _ (by simp)]
  rfl
theorem txt_of {w : World} {v : Value} {zs : List Int} (h : Reads .u8 w v zs) (hn : 0 < zs.length) : (convert 60 9 v).run Tryz.prog w = .ok (.string (strOfNums zs)) w := by
  obtain ⟨ao, cap, rfl, h2, h3, h4⟩ := h
  obtain ⟨b, off, rfl, _, e3⟩ := h4 hn
  refine run_convert_bytes_arg w 60 5 Tryz.underlying60 Tryz.underlying5 b off zs.length cap zs rfl ?_ 9 Tryz.underlying9
  intro i hi
  rw [e3 i hi]; simp [Nt.lb]

theorem conv_none (w : World) : (convert 60 9 (.slice none 0 0)).run Tryz.prog w = .ok (.string (strOfNums [])) w :=
  run_convert_bytes_nil w 60 5 Tryz.underlying60 Tryz.underlying5 0 0 9 Tryz.underlying9

set_option maxRecDepth 20000 in
set_option maxHeartbeats 4000000 in
theorem rbytes_any {w : World} {va : Value} {n : Int} {k : Nat} (ha : Arg w va n k) (hk : k ≤ 1099511627776) :
    Calls Tryz.prog 15 #[va] w fun e w' => ∃ s, e = .returned (.string s) ∧ Bstr n s ∧ Below w.heap.size w w' := by
  go_enter Tryz.func15, Tryz.ntmps15
  go_wp2_with fail
  refine (rnorm_any ha hk).mono ?_
  rintro e w0 ⟨v, rfl, hn, hb0⟩
  obtain ⟨xs, hmade, hc, hv, hxk⟩ := hn
  obtain ⟨ao, cap, hve, hl1, hl2, hcel⟩ := hmade.reads
  subst hve
  have HV := hide hv
  clear hmade ha hv
  go_wp2
  obtain ⟨N, hN⟩ : ∃ N, xs.length = N := ⟨_, rfl⟩
  rw [hN]
  have hNb : N ≤ 1099511627776 := by omega
  go_loopg [3, 4] N (fun c out si wr => ∃ (i : Nat) (zs : List Int), i ≤ N ∧ c = i ∧ si = .int .i64 ((i : Int) - 1) ∧ BE zs (Nt.val (xs.drop i)) ∧ zs.length ≤ 4 * (N - i) ∧ (zs = [] → out = .slice none 0 0) ∧ wr.ownsRow w0.heap.size 5 1 out zs.length (zs.map (Value.int .u8)) ∧ Below w0.heap.size w0 wr)
  case atStart => exact ⟨N, [], Nat.le_refl _, rfl, rfl, by rw [← hN, List.drop_length]; exact be_nil, by simp, fun _ => rfl, World.ownsRow_nil _ _ _ _, Below.refl _ _⟩
  case round =>
    obtain ⟨i, zs, hil, hgi, rfl, hbe, hzl, hnil, hown, hbr⟩ := hrel
    rcases Nat.eq_zero_or_pos i with h0 | h0
    · subst h0
      rw [List.drop_zero, HV.out] at hbe
      have HBE := hide (be_str hbe)
      have hfin := hide (below_trans hb0 hbr)
      by_cases hz : zs = []
      · have ho := hnil hz
        subst hz ho
        have hcv := conv_none wr
        clear hbe hnil hown hbr
        go_wp2
        go_ret
        exact ⟨_, rfl, HBE.out, hfin.out⟩
      · have hcv := txt_of (reads_of_owns hown) (List.length_pos_iff.2 hz)
        clear hbe hnil hbr
        go_wp2
        go_ret
        exact ⟨_, rfl, HBE.out, hfin.out⟩
    · obtain ⟨j, rfl⟩ : ∃ j, i = j + 1 := ⟨i - 1, by omega⟩
      obtain ⟨b1, o1, rfl, hb1, hcell⟩ := (hcel.below hbr) (by omega)
      have g0 := hcell j (by omega)
      have bx := hc.1 j
      have hd := val_drop_succ (xs := xs) (i := j) (by omega)
      generalize hx0 : Nt.lb xs j = x0 at *
      generalize hV : Nt.val (xs.drop (j + 1)) = V at *
      have HD := hide hd
      have HBE := hide hbe
      have HNil := hide hnil
      rw [show ((j + 1 : Nat) : Int) - 1 = (j : Int) by omega]
      clear hcell hd hx0 hV hbe hnil
      go_wp2
      go_loopw [3, 5, 6] (fun out sx sk wq => ∃ (k : Nat) (x A : Int) (ys : List Int), k ≤ 4 ∧ sk = .int .i64 k ∧ sx = .int .u32 x ∧ 0 ≤ x ∧ x < 4294967296 ∧ A * 4294967296 + x = (V * 4294967296 + x0) * Nb.pw k ∧ BE ys A ∧ ys.length ≤ 4 * (N - (j + 1)) + k ∧ (ys = [] → out = .slice none 0 0) ∧ wq.ownsRow w0.heap.size 5 1 out ys.length (ys.map (Value.int .u8)) ∧ Below w0.heap.size w0 wq) (fun _ _ sk _ => 4 - (intOf sk).toNat)
      case atStart => exact ⟨0, x0, V, zs, by omega, rfl, rfl, bx.1, bx.2, by simp [Nb.pw], HBE.out, by omega, HNil.out, hown, hbr⟩
      case round =>
        clear hown hbr HBE HNil
        obtain ⟨k, x, A, ys, hk, rfl, rfl, x0', x1, heq, hbe, hyl, hnil, howq, hbq⟩ := hrel
        have HE := hide heq
        have HB := hide hbe
        have HNil := hide hnil
        clear heq hbe hnil
        by_cases hkl : k < 4
        · have hkl' : (k : Int) < 4 := by omega
          obtain ⟨b, hb⟩ : ∃ b, b = x / 16777216 := ⟨_, rfl⟩
          have hb0' : 0 ≤ b := by omega
          have hb1' : b < 256 := by omega
          obtain ⟨y, hy⟩ : ∃ y, y = x * 256 % 4294967296 := ⟨_, rfl⟩
          have hy2 : y = x * 256 - b * 4294967296 := by omega
          have hnx : (A * 256 + b) * 4294967296 + y = (V * 4294967296 + x0) * Nb.pw (k + 1) := by
            rw [Nb.pw_succ, hy2]
            have h := HE.out
            generalize (V * 4294967296 + x0) = T at *
            rw [show T * (256 * Nb.pw k) = 256 * (T * Nb.pw k) by grind, ← h]
            omega
          have HX := hide hnx
          have hsz := hbq.size
          clear hnx
          by_cases hcase : b = 0 ∧ ys = []
          · obtain ⟨hbz, hyz⟩ := hcase
            have ho := HNil.out hyz
            subst hyz ho
            have hA := be_zero HB.out
            have hbb : (x / 16777216 == 0) = true := by simp; omega
            have HF : Hid (BE [] (A * 256 + b)) := hide (by rw [hA, hbz]; exact be_nil)
            go_wp2
            go_roundw
            case rel => exact ⟨k + 1, y, A * 256 + b, [], by omega, by go_num, (by first | (rw [hy]; done) | (rw [hy]; exact congrArg _ (by omega))), by omega, by omega, HX.out, HF.out, by simp, fun _ => rfl, howq, hbq⟩
            case measure => simp [intOf]; omega
          · have HF : Hid (BE (ys ++ [b]) (A * 256 + b)) := hide (be_more HB.out ⟨hb0', hb1'⟩ (fun h => hcase ⟨h.2, h.1⟩))
            have hlen : ys.length ≤ 4 * 1099511627776 := by omega
            have hbx : x / 16777216 = b := hb.symm
            have hbw : b % 256 = b := by omega
            clear hb
            obtain ⟨ao', cap', hout, _⟩ := reads_of_owns howq
            subst hout
            by_cases hbz : b = 0
            · have hyp : (0 : Int) < (ys.length : Int) := by
                rcases Nat.eq_zero_or_pos ys.length with h | h
                · exact absurd ⟨hbz, List.eq_nil_of_length_eq_zero h⟩ hcase
                · omega
              subst hbz
              go_wp2_with (at_builtin; refine wpList_append_cells _ rfl _ _ 60 rfl w0.heap.size 5 .u8 1 Tryz.underlying60 Tryz.infoU8 _ ys.length ys rfl (howq.alloc _) (some ⟨wr.heap.size, 0, none⟩) 1 [0] rfl (cell_one _ _ _ _) (by unfold maxLen; simp; omega) (by simp; omega) (by simp; omega) ?_)
              intro v' w1 hown' hgrow
              have hb1 : Below w0.heap.size w0 w1 := own_grows (hbq.alloc hsz _) (by simp; omega) (howq.alloc _) hgrow
              have Hown := hide hown'
              clear hown' hgrow howq
              go_wp2
              go_roundw
              case rel => exact ⟨k + 1, y, A * 256 + 0, ys ++ [0], by omega, by go_num, (by first | (rw [hy]; done) | (rw [hy]; exact congrArg _ (by omega))), by omega, by omega, HX.out, HF.out, by simp; omega, fun h => by simp at h, by simpa using Hown.out, hb1⟩
              case measure => simp [intOf]; omega
            · have hbb : (b == 0) = false := by simp [hbz]
              go_wp2_with (at_builtin; refine wpList_append_cells _ rfl _ _ 60 rfl w0.heap.size 5 .u8 1 Tryz.underlying60 Tryz.infoU8 _ ys.length ys rfl (howq.alloc _) (some ⟨wr.heap.size, 0, none⟩) 1 [b] rfl (cell_one _ _ _ _) (by unfold maxLen; simp; omega) (by simp; omega) (by simp; omega) ?_)
              intro v' w1 hown' hgrow
              have hb1 : Below w0.heap.size w0 w1 := own_grows (hbq.alloc hsz _) (by simp; omega) (howq.alloc _) hgrow
              have Hown := hide hown'
              clear hown' hgrow howq
              go_wp2
              go_roundw
              case rel => exact ⟨k + 1, y, A * 256 + b, ys ++ [b], by omega, by go_num, (by first | (rw [hy]; done) | (rw [hy]; exact congrArg _ (by omega))), by omega, by omega, HX.out, HF.out, by simp; omega, fun h => by simp at h, by simpa using Hown.out, hb1⟩
              case measure => simp [intOf]; omega
        · have hke : k = 4 := by omega
          subst hke
          have hA : A = V * 4294967296 + x0 := by
            have h := HE.out
            rw [show Nb.pw 4 = 4294967296 by decide] at h
            omega
          have HF : Hid (BE ys (Nt.val (xs.drop j))) := hide (by rw [HD.out]; have h := HB.out; rw [hA] at h; rw [show x0 + 4294967296 * V = V * 4294967296 + x0 by omega]; exact h)
          clear hA
          go_wp2
          go_roundg j
          case measure => omega
          case rel => exact ⟨j, ys, by omega, rfl, by go_num, HF.out, by omega, HNil.out, howq, hbq⟩

end Go.Proofs.YthoaibcoklgnhaaGreatDoor

namespace Go.Proofs.YthoaibcoklgnhaaGreatDoor
open Go.RowKit

/-- any bytes, the noughts ahead left out, are a number's -/
theorem bytes_tell (u : ByteArray) : ∃ ds t, Nb.Canon ds ∧ t = strOfNums ds.reverse ∧ u.data.toList.dropWhile (· == 0) = t.data.toList ∧ ds.length ≤ u.size := by
  have hlen : (u.data.toList.dropWhile (· == 0)).length ≤ u.size := by
    have h2 : (u.data.toList.dropWhile (· == 0)).length ≤ u.data.toList.length := (List.dropWhile_sublist _).length_le
    have h4 : u.data.toList.length = u.size := Array.length_toList
    omega
  have hhead : ∀ b r, u.data.toList.dropWhile (· == 0) = b :: r → b ≠ 0 := by
    intro b r h e
    have := List.head?_dropWhile_not (· == (0 : UInt8)) u.data.toList
    rw [h] at this
    simp [e] at this
  generalize u.data.toList.dropWhile (· == 0) = l at *
  refine ⟨(l.map fun b => ((b.toNat : Nat) : Int)).reverse, strOfNums (l.map fun b => ((b.toNat : Nat) : Int)), ⟨fun i => ?_, fun hne => ?_⟩, by rw [List.reverse_reverse], ?_, by simpa using hlen⟩
  · have key : ∀ x ∈ (l.map fun b => ((b.toNat : Nat) : Int)).reverse, 0 ≤ x ∧ x < 256 := by
      intro x hx
      rw [List.mem_reverse] at hx
      obtain ⟨b, _, rfl⟩ := List.mem_map.1 hx
      have := b.toNat_lt
      omega
    show 0 ≤ List.getD _ i 0 ∧ List.getD _ i 0 < 256
    rw [List.getD_eq_getElem?_getD]
    cases hk : (l.map fun b => ((b.toNat : Nat) : Int)).reverse[i]? with
    | none => simp
    | some x => exact key x (List.mem_of_getElem? hk)
  · cases l with
    | nil => simp at hne
    | cons b r =>
      have hb := hhead b r rfl
      show List.getD _ _ 0 ≠ 0
      simp
      intro e
      exact hb (UInt8.toNat_inj.1 (by simpa using e))
  · rw [strOfNums_data, List.map_map]
    symm
    conv => rhs; rw [← List.map_id l]
    apply List.map_congr_left
    intro b _
    simp

set_option maxRecDepth 20000 in
set_option maxHeartbeats 4000000 in
theorem rfrom_any {w : World} {u t : ByteArray} {n : Int} {ds : List Int} (hd : Nb.Canon ds) (hv : Nb.val ds = n) (hu : u.size ≤ 1099511627776) (hl : ds.length ≤ 1048576) (hs : t = strOfNums ds.reverse) (ht : u.data.toList.dropWhile (· == 0) = t.data.toList) :
    Calls Tryz.prog 16 #[.string u] w fun e w' => ∃ v, e = .returned (.tuple #[v, .bool true]) ∧ Num w.heap.size w' v n ((ds.length + 3) / 4) ∧ Below w.heap.size w w' := by
  obtain ⟨L, hL⟩ : ∃ L, L = ds.length := ⟨_, rfl⟩
  obtain ⟨M, hM⟩ : ∃ M, M = (L + 3) / 4 := ⟨_, rfl⟩
  have hsz : t.size = L := by rw [hs, strOfNums_size, List.length_reverse, hL]
  have j1 : ((L : Int) + 3) / 4 = (M : Int) := by omega
  have hix : ∀ p (h : p < t.size), ((t[p]'h).toNat : Int) = Nt.lb ds (L - 1 - p) := by
    intro p h
    subst hs
    have hp : p < ds.length := by rw [strOfNums_size, List.length_reverse] at h; exact h
    rw [strOfNums_at h (by rw [lb_reverse hp]; exact hd.1 _), lb_reverse hp, hL]
  have Ht := hide ht
  have Hs := hide hs
  have Hix := hide hix
  have HM := hide hM
  have HL := hide hL
  have Hv := hide hv
  have HD := hide hd
  have hLu : L ≤ u.size := by
    have h1 := congrArg List.length ht
    have h2 : (u.data.toList.dropWhile (· == 0)).length ≤ u.data.toList.length := (List.dropWhile_sublist _).length_le
    have h3 : t.data.toList.length = t.size := Array.length_toList
    have h4 : u.data.toList.length = u.size := Array.length_toList
    omega
  rw [← hL] at hl
  clear ht hs hix hM hL hv hd
  go_enter Tryz.func16, Tryz.ntmps16
  go_wp2
  go_loopg [0] u.size (fun c s wr => ∃ v : ByteArray, s = .string v ∧ v.size = c ∧ c ≤ 1099511627776 ∧ v.data.toList.dropWhile (· == 0) = u.data.toList.dropWhile (· == 0) ∧ w = wr)
  case atStart => exact ⟨u, rfl, rfl, hu, rfl, rfl⟩
  case round =>
    obtain ⟨v, rfl, hc, hcb, hdw, rfl⟩ := hrel
    subst hc
    have HW := hide hdw
    clear hdw
    by_cases hp : 0 < v.size
    · have hun := bytes_uncons hp
      have hp2 : (0 : Int) < (v.size : Int) := by omega
      by_cases h0 : v[0] = 0
      · have hz : (((v[0].toNat : Nat) : Int) == 0) = true := by rw [h0]; rfl
        have hnew : (v.extract 1 v.size).data.toList.dropWhile (· == 0) = u.data.toList.dropWhile (· == 0) := by
          have h := HW.out
          rw [hun, List.dropWhile_cons, h0] at h
          simpa using h
        have hsz1 : (v.extract 1 v.size).size = v.size - 1 := by simp
        have HN := hide hnew
        have HS := hide hsz1
        clear hun hnew hsz1 h0
        go_wp2
        go_roundg (v.size - 1)
        case measure => omega
        case rel => exact ⟨v.extract 1 v.size, rfl, HS.out, by omega, HN.out, rfl⟩
      · have hz : (((v[0].toNat : Nat) : Int) == 0) = false := by
          simp
          intro h
          exact h0 (UInt8.toNat_inj.1 (by simpa using h))
        have hvt : t = v := (Go.WideShapes.bytes_inj (by rw [← Ht.out, ← HW.out, hun, List.dropWhile_cons]; simp [h0])).symm
        clear hun HW
        subst hvt
        have hp4 : (0 : Int) < (L : Int) := by omega
        clear h0
        have hl2 : ¬ (1048576 : Int) < (L : Int) := by omega
        go_wp2_with (at_make; refine wpList_make_row _ rfl _ _ 23 rfl 52 .u32 4 Tryz.underlying23 Tryz.infoU32 _ _ _ _ M M rfl rfl (by omega) (by omega) (Nat.le_refl _) (by omega) (by unfold maxLen; omega) ?_)
        intro w1 hr hbel hsz1
        go_wp2
        go_loopw [5] (fun i wr => ∃ (k : Nat) (zs : List Int), k ≤ L ∧ i = .int .i64 k ∧ zs.length = M ∧ FromRel ds zs k ∧ Row .u32 52 wr w.heap.size zs ∧ Below w.heap.size w wr) (fun i _ => L - (intOf i).toNat)
        case atStart => exact ⟨0, List.replicate M 0, by omega, rfl, by simp, ⟨Nt.ok_replicate _, fun j _ => Nt.lb_replicate _ _, by rw [Nt.lb_replicate]; decide, by rw [Nt.val_replicate]; rfl⟩, hr, hbel⟩
        case round =>
          obtain ⟨k, zs, hk, rfl, hzl, hrel2, hrow, hbr⟩ := hrel
          have HR := hide hrel2
          have HZ := hide hzl
          clear hrel2 hzl hr hbel
          by_cases hkl : k < L
          · obtain ⟨q, hq⟩ : ∃ q, q = k / 4 := ⟨_, rfl⟩
            obtain ⟨r, hr4⟩ : ∃ r, r = k % 4 := ⟨_, rfl⟩
            obtain ⟨p, hp⟩ : ∃ p, p = L - 1 - k := ⟨_, rfl⟩
            have hqM : q < M := by have := HM.out; omega
            have g1 := hrow.cell (i := q) (by rw [HZ.out]; exact hqM)
            have hfz := hrow.frozen q
            have bd := HD.out.1 k
            have bz := HR.out.1 q
            have hbn := (limb_or (x := Nt.lb zs q) (b := Nt.lb ds k) (r := r) ⟨(HR.out.1 q).1, by have h := HR.out.2.2.1; rw [← hq, ← hr4] at h; exact h⟩ bd (by omega)).2
            have hst := fromRel_step HR.out hq hr4 (by rw [HZ.out]; exact hqM) bd
            have hps : p < t.size := by omega
            have hx := Hix.out p hps
            rw [show L - 1 - p = k by omega] at hx
            have q1 : (k : Int) / 4 = (q : Int) := by omega
            have q2 : (L : Int) - 1 - (k : Int) = (p : Int) := by omega
            have q3 : (q : Int) < (M : Int) := by omega
            have q4 : (p : Int) < (L : Int) := by omega
            have q5 : (k : Int) % 4 = (r : Int) := by omega
            have hrb : r < 4 := by omega
            have HSt := hide hst
            clear hst hq hr4 hp
            match r, hrb with
            | 0, _ =>
              have e : Nb.pw 0 = 1 := by decide
              have e' : Nb.pw 1 = 256 := by decide
              rw [e, Int.mul_one] at HSt
              rw [e, e', Int.mul_one] at hbn
              clear e e'
              go_wp2
              go_region
              all_goals go_wp2
              all_goals go_roundw
              all_goals first
                | exact ⟨k + 1, zs.set q (Nt.lb zs q + Nt.lb ds k), by omega, by go_num, by rw [List.length_set]; exact HZ.out, HSt.out, hrow.set _ _, (hbr.setCell (Nat.le_refl _) _).drew⟩
                | (simp [intOf]; omega)
            | 1, _ =>
              have e : Nb.pw 1 = 256 := by decide
              have e' : Nb.pw 2 = 65536 := by decide
              rw [e] at HSt
              rw [e, e'] at hbn
              clear e e'
              go_wp2
              go_region
              all_goals go_wp2
              all_goals go_roundw
              all_goals first
                | exact ⟨k + 1, zs.set q (Nt.lb zs q + Nt.lb ds k * 256), by omega, by go_num, by rw [List.length_set]; exact HZ.out, HSt.out, hrow.set _ _, (hbr.setCell (Nat.le_refl _) _).drew⟩
                | (simp [intOf]; omega)
            | 2, _ =>
              have e : Nb.pw 2 = 65536 := by decide
              have e' : Nb.pw 3 = 16777216 := by decide
              rw [e] at HSt
              rw [e, e'] at hbn
              clear e e'
              go_wp2
              go_region
              all_goals go_wp2
              all_goals go_roundw
              all_goals first
                | exact ⟨k + 1, zs.set q (Nt.lb zs q + Nt.lb ds k * 65536), by omega, by go_num, by rw [List.length_set]; exact HZ.out, HSt.out, hrow.set _ _, (hbr.setCell (Nat.le_refl _) _).drew⟩
                | (simp [intOf]; omega)
            | 3, _ =>
              have e : Nb.pw 3 = 16777216 := by decide
              have e' : Nb.pw 4 = 4294967296 := by decide
              rw [e] at HSt
              rw [e, e'] at hbn
              clear e e'
              go_wp2
              go_region
              all_goals go_wp2
              all_goals go_roundw
              all_goals first
                | exact ⟨k + 1, zs.set q (Nt.lb zs q + Nt.lb ds k * 16777216), by omega, by go_num, by rw [List.length_set]; exact HZ.out, HSt.out, hrow.set _ _, (hbr.setCell (Nat.le_refl _) _).drew⟩
                | (simp [intOf]; omega)
            | r + 4, h => omega
          · have hke : k = L := by omega
            have hfin : Nt.val zs = n := by
              have h := HR.out.2.2.2
              rw [hke, HL.out] at h
              rw [h, ← Hv.out]; rfl
            have hcan : Nt.Canon zs := limbs_top HD.out HR.out.1 (by rw [HZ.out, HM.out, HL.out]) (by rw [hfin, Hv.out])
            have hnum : Num w.heap.size wr (.slice (some ⟨w.heap.size, 0, none⟩) M M) n ((ds.length + 3) / 4) := by
              refine ⟨zs, ⟨_, by rw [HZ.out], by rw [HZ.out]; unfold maxLen; omega, fun _ => ⟨w.heap.size, [], rfl, Nat.le_refl _, by rw [List.append_nil]; exact hrow⟩⟩, hcan, hfin, by rw [HZ.out, HM.out, HL.out]; exact Nat.le_refl _⟩
            have HN := hide hnum
            clear hfin hcan hnum
            subst hke
            go_wp2
            go_ret2
            exact ⟨_, rfl, HN.out, hbr⟩
    · have hs0 : v.size = 0 := by omega
      have hl0 : v.data.toList = [] := by
        apply List.eq_nil_of_length_eq_zero
        rw [Array.length_toList]
        exact hs0
      have hvt : t = v := (Go.WideShapes.bytes_inj (by rw [← Ht.out, ← HW.out, hl0]; rfl)).symm
      clear hl0 HW
      subst hvt
      have hp2 : ¬ (0 : Int) < (L : Int) := by omega
      clear hp hs0
      have hl2 : ¬ (1048576 : Int) < (L : Int) := by omega
      go_wp2_with (at_make; refine wpList_make_row _ rfl _ _ 23 rfl 52 .u32 4 Tryz.underlying23 Tryz.infoU32 _ _ _ _ M M rfl rfl (by omega) (by omega) (Nat.le_refl _) (by omega) (by unfold maxLen; omega) ?_)
      intro w1 hr hbel hsz1
      go_wp2
      go_loopw [5] (fun i wr => ∃ (k : Nat) (zs : List Int), k ≤ L ∧ i = .int .i64 k ∧ zs.length = M ∧ FromRel ds zs k ∧ Row .u32 52 wr w.heap.size zs ∧ Below w.heap.size w wr) (fun i _ => L - (intOf i).toNat)
      case atStart => exact ⟨0, List.replicate M 0, by omega, rfl, by simp, ⟨Nt.ok_replicate _, fun j _ => Nt.lb_replicate _ _, by rw [Nt.lb_replicate]; decide, by rw [Nt.val_replicate]; rfl⟩, hr, hbel⟩
      case round =>
        obtain ⟨k, zs, hk, rfl, hzl, hrel2, hrow, hbr⟩ := hrel
        have HR := hide hrel2
        have HZ := hide hzl
        clear hrel2 hzl hr hbel
        by_cases hkl : k < L
        · exfalso; omega
        · have hke : k = L := by omega
          have hfin : Nt.val zs = n := by
            have h := HR.out.2.2.2
            rw [hke, HL.out] at h
            rw [h, ← Hv.out]; rfl
          have hcan : Nt.Canon zs := limbs_top HD.out HR.out.1 (by rw [HZ.out, HM.out, HL.out]) (by rw [hfin, Hv.out])
          have hnum : Num w.heap.size wr (.slice (some ⟨w.heap.size, 0, none⟩) M M) n ((ds.length + 3) / 4) := by
            refine ⟨zs, ⟨_, by rw [HZ.out], by rw [HZ.out]; unfold maxLen; omega, fun _ => ⟨w.heap.size, [], rfl, Nat.le_refl _, by rw [List.append_nil]; exact hrow⟩⟩, hcan, hfin, by rw [HZ.out, HM.out, HL.out]; exact Nat.le_refl _⟩
          have HN := hide hnum
          clear hfin hcan hnum
          subst hke
          go_wp2
          go_ret2
          exact ⟨_, rfl, HN.out, hbr⟩

set_option maxRecDepth 20000 in
set_option maxHeartbeats 4000000 in
theorem rfrom_big {w : World} {u t : ByteArray} {n : Int} {ds : List Int} (hd : Nb.Canon ds) (hv : Nb.val ds = n) (hu : u.size ≤ 1099511627776) (hl : 1048576 < ds.length) (hs : t = strOfNums ds.reverse) (ht : u.data.toList.dropWhile (· == 0) = t.data.toList) :
    Calls Tryz.prog 16 #[.string u] w fun e w' => e = .returned (.tuple #[.slice none 0 0, .bool false]) ∧ w' = w := by
  obtain ⟨L, hL⟩ : ∃ L, L = ds.length := ⟨_, rfl⟩
  obtain ⟨M, hM⟩ : ∃ M, M = (L + 3) / 4 := ⟨_, rfl⟩
  have hsz : t.size = L := by rw [hs, strOfNums_size, List.length_reverse, hL]
  have j1 : ((L : Int) + 3) / 4 = (M : Int) := by omega
  have hix : ∀ p (h : p < t.size), ((t[p]'h).toNat : Int) = Nt.lb ds (L - 1 - p) := by
    intro p h
    subst hs
    have hp : p < ds.length := by rw [strOfNums_size, List.length_reverse] at h; exact h
    rw [strOfNums_at h (by rw [lb_reverse hp]; exact hd.1 _), lb_reverse hp, hL]
  have Ht := hide ht
  have Hs := hide hs
  have Hix := hide hix
  have HM := hide hM
  have HL := hide hL
  have Hv := hide hv
  have HD := hide hd
  have hLu : L ≤ u.size := by
    have h1 := congrArg List.length ht
    have h2 : (u.data.toList.dropWhile (· == 0)).length ≤ u.data.toList.length := (List.dropWhile_sublist _).length_le
    have h3 : t.data.toList.length = t.size := Array.length_toList
    have h4 : u.data.toList.length = u.size := Array.length_toList
    omega
  rw [← hL] at hl
  clear ht hs hix hM hL hv hd
  go_enter Tryz.func16, Tryz.ntmps16
  go_wp2
  go_loopg [0] u.size (fun c s wr => ∃ v : ByteArray, s = .string v ∧ v.size = c ∧ c ≤ 1099511627776 ∧ v.data.toList.dropWhile (· == 0) = u.data.toList.dropWhile (· == 0) ∧ w = wr)
  case atStart => exact ⟨u, rfl, rfl, hu, rfl, rfl⟩
  case round =>
    obtain ⟨v, rfl, hc, hcb, hdw, rfl⟩ := hrel
    subst hc
    have HW := hide hdw
    clear hdw
    by_cases hp : 0 < v.size
    · have hun := bytes_uncons hp
      have hp2 : (0 : Int) < (v.size : Int) := by omega
      by_cases h0 : v[0] = 0
      · have hz : (((v[0].toNat : Nat) : Int) == 0) = true := by rw [h0]; rfl
        have hnew : (v.extract 1 v.size).data.toList.dropWhile (· == 0) = u.data.toList.dropWhile (· == 0) := by
          have h := HW.out
          rw [hun, List.dropWhile_cons, h0] at h
          simpa using h
        have hsz1 : (v.extract 1 v.size).size = v.size - 1 := by simp
        have HN := hide hnew
        have HS := hide hsz1
        clear hun hnew hsz1 h0
        go_wp2
        go_roundg (v.size - 1)
        case measure => omega
        case rel => exact ⟨v.extract 1 v.size, rfl, HS.out, by omega, HN.out, rfl⟩
      · have hz : (((v[0].toNat : Nat) : Int) == 0) = false := by
          simp
          intro h
          exact h0 (UInt8.toNat_inj.1 (by simpa using h))
        have hvt : t = v := (Go.WideShapes.bytes_inj (by rw [← Ht.out, ← HW.out, hun, List.dropWhile_cons]; simp [h0])).symm
        clear hun HW
        subst hvt
        have hp4 : (0 : Int) < (L : Int) := by omega
        clear h0
        have hl2 : (1048576 : Int) < (L : Int) := by omega
        go_wp2
        go_ret2
        exact ⟨rfl, rfl⟩
    · have hs0 : v.size = 0 := by omega
      have hl0 : v.data.toList = [] := by
        apply List.eq_nil_of_length_eq_zero
        rw [Array.length_toList]
        exact hs0
      have hvt : t = v := (Go.WideShapes.bytes_inj (by rw [← Ht.out, ← HW.out, hl0]; rfl)).symm
      clear hl0 HW
      subst hvt
      have hp2 : ¬ (0 : Int) < (L : Int) := by omega
      clear hp hs0
      exfalso
      omega

set_option maxRecDepth 20000 in
set_option maxHeartbeats 4000000 in
theorem qfrom_big {w : World} {u t : ByteArray} {ds : List Int} (hu : u.size ≤ 1099511627776) (hl : 1048576 < ds.length) (hs : t = strOfNums ds.reverse) (ht : u.data.toList.dropWhile (· == 0) = t.data.toList) :
    Calls Tryz.prog 17 #[.string u] w fun e w' => e = .returned (.tuple #[.slice none 0 0, .bool false]) ∧ w' = w := by
  have hsz : t.size = ds.length := by rw [hs, strOfNums_size, List.length_reverse]
  generalize ds.length = L at *
  go_enter Tryz.func17, Tryz.ntmps17
  go_wp2_with fail
  refine (trimLeft0_any hu).mono ?_
  rintro e w' ⟨v, rfl, rfl, hvd⟩
  have hvs : v = t := Go.WideShapes.bytes_inj (by rw [hvd, ht])
  subst hvs
  have hl2 : (1048576 : Int) < (L : Int) := by omega
  clear hvd ht hs
  go_wp2
  go_ret2
  exact ⟨rfl, rfl⟩

end Go.Proofs.YthoaibcoklgnhaaGreatDoor

namespace Go.Proofs.YthoaibcoklgnhaaGreatDoor
open Go.RowKit

/-- what bytes tell: a number, or too many of them -/
def Fb (u : ByteArray) (b : Bool) (n : Int) : Prop := ∃ ds t, Nb.Canon ds ∧ t = strOfNums ds.reverse ∧ u.data.toList.dropWhile (· == 0) = t.data.toList ∧ b = decide (ds.length ≤ 1048576) ∧ n = if ds.length ≤ 1048576 then Nb.val ds else 0
theorem fb_any (u : ByteArray) : ∃ b n, Fb u b n := by
  obtain ⟨ds, t, h1, h2, h3, _⟩ := bytes_tell u
  exact ⟨_, _, ds, t, h1, h2, h3, rfl, rfl⟩
theorem nil_num (B : Nat) (w : World) (k : Nat) : Num B w (.slice none 0 0) 0 k := ⟨[], ⟨none, rfl, by unfold maxLen; simp, fun h => absurd h (by simp)⟩, Nt.canon_nil, rfl, by simp⟩
theorem rfrom_fb {w : World} {u : ByteArray} {b : Bool} {n : Int} (h : Fb u b n) (hu : u.size ≤ 1099511627776) :
    Calls Tryz.prog 16 #[.string u] w fun e w' => ∃ v, e = .returned (.tuple #[v, .bool b]) ∧ Num w.heap.size w' v n 262144 ∧ Below w.heap.size w w' := by
  obtain ⟨ds, t, h1, h2, h3, hb, hn⟩ := h
  by_cases hl : ds.length ≤ 1048576
  · rw [if_pos hl] at hn
    rw [decide_eq_true hl] at hb
    subst hb
    refine (rfrom_any h1 hn.symm hu hl h2 h3).mono ?_
    rintro e w' ⟨v, rfl, hv, hB⟩
    exact ⟨v, rfl, hv.mono (by omega), hB⟩
  · rw [if_neg hl] at hn
    rw [decide_eq_false hl] at hb
    subst hb hn
    refine (rfrom_big h1 rfl hu (by omega) h2 h3).mono ?_
    rintro e w' ⟨rfl, rfl⟩
    exact ⟨_, rfl, nil_num _ _ _, Below.refl _ _⟩
theorem qfrom_fb {w : World} {u : ByteArray} {b : Bool} {n : Int} (h : Fb u b n) (hu : u.size ≤ 1099511627776) :
    Calls Tryz.prog 17 #[.string u] w fun e w' => ∃ v, e = .returned (.tuple #[v, .bool b]) ∧ Num w.heap.size w' v n 262144 ∧ Below w.heap.size w w' := by
  obtain ⟨ds, t, h1, h2, h3, hb, hn⟩ := h
  by_cases hl : ds.length ≤ 1048576
  · rw [if_pos hl] at hn
    rw [decide_eq_true hl] at hb
    subst hb
    refine (qfrom_any h1 hn.symm hu hl (by rw [h3, h2])).mono ?_
    rintro e w' ⟨v, rfl, hv, hB⟩
    exact ⟨v, rfl, hv.mono (by omega), hB⟩
  · rw [if_neg hl] at hn
    rw [decide_eq_false hl] at hb
    subst hb hn
    refine (qfrom_big hu (by omega) h2 h3).mono ?_
    rintro e w' ⟨rfl, rfl⟩
    exact ⟨_, rfl, nil_num _ _ _, Below.refl _ _⟩

set_option maxRecDepth 20000 in
set_option maxHeartbeats 8000000 in
theorem bytes_walk {w : World} {va vb : Value} {xs ys : List Int} {s t : ByteArray} (ha : Reads .u32 w va xs) (hb : Reads .u32 w vb ys) (ox : Nt.Ok xs) (oy : Nt.Ok ys) (lx : xs.length ≤ 1048576) (ly : ys.length ≤ 1048576) (hs : s.size ≤ 1048576) (ht : t.size ≤ 1048576) :
    Calls Tryz.prog 5 #[va, vb, .string s, .string t] w fun e w' => e = .returned (.bool true) ∧ Below w.heap.size w w' := by
  have HA := hide ha
  have HB := hide hb
  obtain ⟨ao, ca, rfl, _⟩ := ha
  obtain ⟨bo, cb, rfl, _⟩ := hb
  go_enter Tryz.func5, Tryz.ntmps5
  obtain ⟨w0, hw0⟩ : ∃ w0, w0 = w.alloc (.cells (bookCells 0 (.slice none 0 0)) 39) := ⟨_, rfl⟩
  have hb0 : Below w.heap.size w w0 := by rw [hw0]; exact below_alloc w _
  have HK0 : Hid (Kept w.heap.size w0 w.heap.size (.slice none 0 0) (nilled [])) := hide (by
    refine ⟨Nat.le_refl _, ?_, World.ownsRow_nil _ _ _ _⟩
    unfold BookAt
    rw [hw0, heap_alloc_new]
    rfl)
  go_wp2_with fail
  have hw0' : w.alloc (.cells #[.int .i64 0, .slice none 0 0, .slice none 0 0, .slice none 0 0, .slice none 0 0, .slice none 0 0, .slice none 0 0, .slice none 0 0, .slice none 0 0, .slice none 0 0, .slice none 0 0, .slice none 0 0, .slice none 0 0, .slice none 0 0, .slice none 0 0] 39) = w0 := by rw [hw0]; rfl
  rw [hw0']
  clear hw0 hw0'
  with_reducible refine (twin_any (HA.out.below hb0) (by omega)).mono ?_
  rintro e w1 ⟨xv, rfl, tx, hb1⟩
  have TX := hide tx
  obtain ⟨gx, hxv, hgx, _⟩ := tx
  subst hxv
  have hg0 : w.heap.size ≤ gx := by have := hb0.size; omega
  have HK := hide (HK0.out.below hb1)
  have hW := below_trans hb0 hb1
  clear HK0 hb0 hb1
  go_wp2_with fail
  with_reducible refine (qbytes_any (TX.out.reads.argk ox lx) (by omega)).mono ?_
  rintro e w10 ⟨s1, rfl, hq1, _, hbq⟩
  replace TX := hide (TX.out.below hbq)
  replace HK := hide (HK.out.below hbq)
  replace hW := below_trans hW hbq
  clear hbq
  go_wp2_with fail
  with_reducible refine (rbytes_any ((HA.out.below hW).argk ox lx) (by omega)).mono ?_
  rintro e w11 ⟨t1, rfl, hr1, hbq⟩
  have he1 := bstr_one hq1 hr1
  subst he1
  replace TX := hide (TX.out.below hbq)
  replace HK := hide (HK.out.below hbq)
  replace hW := below_trans hW hbq
  clear hbq hq1 hr1
  go_wp2_with fail
  with_reducible refine (twin_any (HB.out.below hW) (by omega)).mono ?_
  rintro e w15 ⟨yv, rfl, ty, hbq⟩
  have TY := hide ty
  obtain ⟨gy, hyv, _⟩ := ty
  subst hyv
  replace TX := hide (TX.out.below hbq)
  replace HK := hide (HK.out.below hbq)
  replace hW := below_trans hW hbq
  clear hbq
  go_wp2_with fail
  with_reducible refine (qbytes_any (TY.out.reads.argk oy ly) (by omega)).mono ?_
  rintro e w20 ⟨s2, rfl, hq2, _, hbq⟩
  replace TX := hide (TX.out.below hbq)
  replace HK := hide (HK.out.below hbq)
  replace hW := below_trans hW hbq
  clear hbq
  go_wp2_with fail
  with_reducible refine (rbytes_any ((HB.out.below hW).argk oy ly) (by omega)).mono ?_
  rintro e w21 ⟨t2, rfl, hr2, hbq⟩
  have he2 := bstr_one hq2 hr2
  subst he2
  replace TX := hide (TX.out.below hbq)
  replace HK := hide (HK.out.below hbq)
  replace hW := below_trans hW hbq
  clear hbq hq2 hr2
  clear TY
  go_wp2_with fail
  with_reducible refine (qbytes_any (TX.out.reads.argk ox lx) (by omega)).mono ?_
  rintro e w30 ⟨s3, rfl, hq3, _, hbq⟩
  replace TX := hide (TX.out.below hbq)
  replace HK := hide (HK.out.below hbq)
  replace hW := below_trans hW hbq
  clear hbq
  go_wp2_with fail
  with_reducible refine (rbytes_any ((HA.out.below hW).argk ox lx) (by omega)).mono ?_
  rintro e w31 ⟨t3, rfl, hr3, hbq⟩
  have he3 := bstr_one hq3 hr3
  subst he3
  replace TX := hide (TX.out.below hbq)
  replace HK := hide (HK.out.below hbq)
  replace hW := below_trans hW hbq
  clear hbq hq3 hr3
  go_wp2_with fail
  with_reducible refine (left_any TX.out (HA.out.below hW)).mono ?_
  rintro e wl ⟨rfl, hbl⟩
  replace TX := hide (TX.out.below hbl)
  replace HK := hide (HK.out.below hbl)
  replace hW := below_trans hW hbl
  clear hbl
  obtain ⟨gx', ex, _, hmx, hrx⟩ := TX.out
  cases ex
  go_wp2_with fail
  with_reducible refine (over_any (n := xs.length) hrx (ok_app ox (by omega)) (by simp) lx HB.out oy hW hg0).mono ?_
  rintro e wo ⟨rfl, zs, hzl, hzo, hrz, hon⟩
  replace HK := hide (HK.out.grown hon.grownBy (fun k e => by cases e; exact ⟨_, hrx⟩))
  have LX := hide (lies_over (n := xs.length) hrz hzl hmx)
  replace hW := hW.trans (hon.below hg0 hW.size)
  have oz := Nt.ok_take hzo xs.length
  have lz : (zs.take xs.length).length ≤ 1048576 := by rw [List.length_take]; omega
  generalize zs.take xs.length = us at *
  clear hon hrx TX hrz hzl hzo
  go_wp2_with fail
  with_reducible refine (twin_any LX.out.reads (by omega)).mono ?_
  rintro e wt ⟨tv, rfl, tt, hbt⟩
  have TT2 := hide tt
  obtain ⟨gt, htv, _⟩ := tt
  subst htv
  go_wp2_with fail
  with_reducible refine (rbytes_any (TT2.out.reads.argk oz lz) (by omega)).mono ?_
  rintro e wu ⟨want, rfl, hwant, hbu⟩
  go_wp2_with fail
  with_reducible refine (qbytes_any (((LX.out.below hbt).below hbu).arg oz lz) (by omega)).mono ?_
  rintro e wv ⟨got, rfl, hgot, hgs, hbv⟩
  have hwg := bstr_one hgot hwant
  subst hwg
  have hbb := below_trans (below_trans hbt hbu) hbv
  replace HK := hide (HK.out.below hbb)
  replace hW := below_trans hW hbb
  clear hbb hbt hbu hbv hwant hgot TT2 LX
  obtain ⟨wA, hwA⟩ : ∃ wA, wA = wv.alloc (.cells #[.string s, .string t, .string s, .string got] 48) := ⟨_, rfl⟩
  have hbA : Below wv.heap.size wv wA := by rw [hwA]; exact below_alloc wv _
  have hcA : wA.heap[wv.heap.size]? = some (.cells #[.string s, .string t, .string s, .string got] 48 (0, 0)) := by rw [hwA]; exact heap_alloc_new wv _
  have hgA : w.heap.size ≤ wv.heap.size := hW.size
  have hgB : w.heap.size ≠ wv.heap.size := by have := HK.out.book.lt; omega
  generalize hgv : wv.heap.size = gA at *
  have HK1 := hide (HK.out.below (by rw [hgv]; exact hbA))
  have hW1 : Below w.heap.size w wA := below_trans hW (by rw [hgv]; exact hbA)
  have hM0 : Mem w.heap.size wA [] := ⟨fun v hv => (by cases hv), List.Pairwise.nil, fun v hv => (by cases hv)⟩
  have hgot4 : got.size ≤ 1099511627776 := by omega
  clear hbA HK hW
  go_wp2
  rw [← hwA]
  clear hwA
  go_loopg [13] 4 (fun q i wr => ∃ (k : Nat) (all : List Value) (lv : Value), k + q = 4 ∧ i = .int .i64 k ∧ all.length = k ∧ Kept w.heap.size wr w.heap.size lv (nilled all) ∧ Mem w.heap.size wr all ∧ wr.heap[gA]? = some (.cells #[.string s, .string t, .string s, .string got] 48 (0, 0)) ∧ Below w.heap.size w wr)
  case atStart => exact ⟨0, [], .slice none 0 0, by omega, rfl, rfl, HK1.out, hM0, hcA, hW1⟩
  case round =>
    clear HK1 hM0 hcA hW1
    obtain ⟨k, all, lv, hkq, rfl, hal, hkept, hmem, hcs, hW⟩ := hrel
    have hsz := hW.size
    cases gk with
    | zero =>
      have hk3 : k = 4 := by omega
      have hap := apart_mem hkept hsz (by omega) hmem
      have k3 : ¬ (k : Int) < 4 := by omega
      clear hcs hkept hmem
      go_wp2_with fail
      with_reducible refine hap.mono ?_
      clear hap
      rintro e w1 ⟨rfl, hB⟩
      replace hW := hW.trans hB
      clear hB
      go_wp2_with fail
      with_reducible refine qlives_any.mono ?_
      rintro e w2 ⟨rfl, hB⟩
      replace hW := below_trans hW hB
      clear hB
      go_wp2
      go_ret
      exact ⟨rfl, hW⟩
    | succ q =>
      have k3 : (k : Int) < 4 := by omega
      obtain ⟨uk, huk, hck⟩ : ∃ uk : ByteArray, uk.size ≤ 1099511627776 ∧ wr.cell? ⟨gA, k, none⟩ = some (.string uk) := by
        have e1 := cell_of_row wr gA k _ _ _ hcs
        have hk : k < 4 := by omega
        match k, hk with
        | 0, _ => exact ⟨s, by omega, e1⟩
        | 1, _ => exact ⟨t, by omega, e1⟩
        | 2, _ => exact ⟨s, by omega, e1⟩
        | 3, _ => exact ⟨got, hgot4, e1⟩
        | k + 4, h => omega
      obtain ⟨b, n, hfb⟩ := fb_any uk
      have hgl : gA < wr.heap.size := (Array.getElem?_eq_some_iff.1 hcs).1
      have HC := hide hcs
      clear hcs
      go_wp2_with fail
      with_reducible refine (rfrom_fb hfb huk).mono ?_
      rintro e w1 ⟨v1, rfl, h1, hB1⟩
      have hck1 := (hB1.cell (p := ⟨gA, k, none⟩) hgl).trans hck
      have H1 := hide h1
      obtain ⟨_, ⟨a1, rfl, _⟩, _⟩ := h1
      clear hck
      go_wp2_with fail
      with_reducible refine (qfrom_fb hfb huk).mono ?_
      rintro e w2 ⟨v2, rfl, h2, hB2⟩
      have hB12 := below_trans hB1 hB2
      have HK2 := hide (hkept.below hB12)
      have HM2 := hide ((hmem.below hB1).snoc hB2 h2 (by omega) (by have := hB1.size; omega))
      have HC2 : Hid (w2.heap[gA]? = some (.cells #[.string s, .string t, .string s, .string got] 48 (0, 0))) := hide (by rw [hB12.block _ hgl]; exact HC.out)
      have hW2 := below_trans hW hB12
      have SM := hide (same_num h2 (H1.out.below hB2) rfl)
      obtain ⟨_, ⟨a2, rfl, _⟩, _⟩ := h2
      have hbb : (b == b) = true := by simp
      clear HC hck1 hB1 hB2 hB12 hkept hmem H1 hW hgl
      go_wp2_with fail
      with_reducible refine SM.out.mono ?_
      rintro e w3 ⟨rfl, hB3⟩
      have hl2 : gA < w2.heap.size := (Array.getElem?_eq_some_iff.1 HC2.out).1
      have HC3 : Hid (w3.heap[gA]? = some (.cells #[.string s, .string t, .string s, .string got] 48 (0, 0))) := hide (by rw [hB3.block _ hl2]; exact HC2.out)
      have HK3 := hide (HK2.out.below hB3)
      have HM3 := hide (HM2.out.below hB3)
      have hW3 := below_trans hW2 hB3
      clear HC2 HK2 HM2 hW2 hB3 hl2 SM
      go_wp2_with fail
      with_reducible refine (nat_any HK3.out hW3.size (by rw [nilled_length]; omega)).mono ?_
      rintro e w4 ⟨rfl, lv', hk4, hoff⟩
      have HM4 := hide (HM3.out.off HK3.out hoff)
      have HC4 := hide (arr_off HK3.out hoff HC3.out (by decide) hgB.symm)
      have hW4 := hW3.trans (hoff.below HK3.out hW3.size)
      rw [← nilled_snoc] at hk4
      have HK4 := hide hk4
      clear hk4 hoff HK3 HM3 HC3 hW3
      go_wp2
      go_roundg q
      case measure => omega
      case rel => exact ⟨k + 1, _, lv', by omega, by first | rfl | simp, by simp [hal], HK4.out, HM4.out, HC4.out, hW4⟩

theorem bytes_arg {w : World} {va vb : Value} {n m : Int} {ka kb : Nat} {s t : ByteArray} (ha : Arg w va n ka) (hb : Arg w vb m kb) (hs : s.size ≤ 1048576) (ht : t.size ≤ 1048576) (hka : ka ≤ 1048576) (hkb : kb ≤ 1048576) :
    Calls Tryz.prog 5 #[va, vb, .string s, .string t] w fun e w' => e = .returned (.bool true) ∧ Below w.heap.size w w' := by
  obtain ⟨xs, h1, h2, _, h3⟩ := ha
  obtain ⟨ys, g1, g2, _, g3⟩ := hb
  exact bytes_walk h1 g1 h2 g2 (by omega) (by omega) hs ht

end Go.Proofs.YthoaibcoklgnhaaGreatDoor
