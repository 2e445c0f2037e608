/- DivFar, DvKit, CmLaw, DvOver, CmWalk -/
import Derived.Test.YthoaibcoklgnhaaGreatDoorDiv
import Derived.Test.YthoaibcoklgnhaaGreatDoorQMem
import Derived.Test.YthoaibcoklgnhaaGreatDoorTwin
import Derived.Test.YthoaibcoklgnhaaGreatDoorGcd
import Derived.Test.YthoaibcoklgnhaaGreatDoorRDM
import Derived.Test.YthoaibcoklgnhaaGreatDoorSame
import Derived.Deep.LoopGhost
import Derived.Test.YthoaibcoklgnhaaGreatDoorQLives
namespace Go.Proofs.YthoaibcoklgnhaaGreatDoor
open Go.RowKit

/-- two lists with room lie in unlike blocks -/
def Sep (q r : Value) : Prop := ∀ a n c a' n' c', q = .slice (some a) n (c + 1) → r = .slice (some a') n' (c' + 1) → a.block ≠ a'.block
theorem Sep.symm {q r : Value} (h : Sep q r) : Sep r q := fun a n c a' n' c' e e' g => h a' n' c' a n c e' e g.symm
theorem sep_none (n : Nat) (r : Value) : Sep (.slice none n 0) r := fun a n c a' n' c' e _ => by cases e
theorem sep_of {B B' : Nat} {w w' : World} {q r : Value} {x y : Int} {k k' : Nat} (hq : Num B w q x k) (hr : Num B' w' r y k') (h : w.heap.size ≤ B') : Sep q r := by
  intro a n c a' n' c' e e' g
  obtain ⟨zs, ⟨ao, e1, _, h1⟩, _⟩ := hq
  obtain ⟨zs', ⟨ao', e1', _, h1'⟩, _⟩ := hr
  rw [e1] at e
  rw [e1'] at e'
  injection e with e2 _ e3
  injection e' with e2' _ e3'
  obtain ⟨gb, rest, hg, _, hrow⟩ := h1 (by omega)
  obtain ⟨gb', rest', hg', hB, hrow'⟩ := h1' (by omega)
  rw [hg] at e2
  rw [hg'] at e2'
  injection e2 with e2
  injection e2' with e2'
  have l := hrow.lt
  rw [← e2, ← e2'] at g
  simp only at g
  omega

set_option maxRecDepth 20000 in
set_option maxHeartbeats 4000000 in
theorem div_far {w : World} {va vb : Value} {n m : Int} {ka kb : Nat} (ha : Arg w va n ka) (hb : Arg w vb m kb) (hka : ka ≤ 549755813888) (hkb : kb ≤ 549755813888) (hm0 : 0 < m) :
    Calls Tryz.prog 21 #[va, vb] w fun e w' => ∃ q r, e = .returned (.tuple #[q, r, .bool true]) ∧ Num w.heap.size w' q (n / m) ka ∧ Num w.heap.size w' r (n % m) kb ∧ Sep q r ∧ Below w.heap.size w w' := by
  have hn0 := ha.nonneg
  have hnlt := ha.lt
  have hmlt := hb.lt
  have hqlt : n / m < Nt.pw ka := Int.lt_of_le_of_lt (Int.ediv_le_self _ hn0) hnlt
  have hrlt : n % m < Nt.pw kb := Int.lt_trans (Int.emod_lt_of_pos _ hm0) hmlt
  have Hq := hide hqlt
  have Hr := hide hrlt
  clear hqlt hrlt hnlt hmlt
  go_enter Tryz.func21, Tryz.ntmps21
  go_wp2_with fail
  refine (cut_arg ha (by omega)).mono ?_
  rintro e w' ⟨rfl, ao, xs, ca, rfl, hxl, hxm, hxk, hxc, hx, hxv⟩
  go_wp2_with fail
  refine (cut_arg hb (by omega)).mono ?_
  rintro e w' ⟨rfl, bo, ys, cb, rfl, hyl, hym, hyk, hyc, hy, hyv⟩
  have hyp : 0 < ys.length := by
    rcases Nat.eq_zero_or_pos ys.length with h0 | h0
    · rw [List.eq_nil_of_length_eq_zero h0, Nt.val_nil] at hyv; omega
    · exact h0
  have hy0 : ((ys.length : Int) == 0) = false := by simp; intro e; subst e; simp at hyp
  have aa : Arg w' (.slice ao xs.length ca) n ka := ⟨xs, ⟨ao, ca, rfl, hxl, hxm, hxc⟩, hx.1, hxv, hxk⟩
  have ab : Arg w' (.slice bo ys.length cb) m kb := ⟨ys, ⟨bo, cb, rfl, hyl, hym, hyc⟩, hy.1, hyv, hyk⟩
  have HXv := hide hxv
  have HYv := hide hyv
  clear ha hb hxv hyv
  go_wp2_with fail
  refine (cmp_any aa ab (by omega) (by omega)).mono ?_
  rintro e w1 ⟨rfl, hb1⟩
  by_cases hlt : n < m
  · have hs : sgn n m < 0 := by unfold sgn; rw [if_pos hlt]; omega
    go_wp2_with fail
    refine (norm_any (aa.below hb1) (by omega)).mono ?_
    rintro e w2 ⟨v, rfl, hn, hb2⟩
    have hb12 := below_trans hb1 hb2
    have e1 : n / m = 0 := Int.ediv_eq_zero_of_lt hn0 hlt
    have e2 : n % m = n := Int.emod_eq_of_lt hn0 hlt
    have hnum : Num w'.heap.size w2 v (n % m) kb := by rw [e2]; exact (hn.low hb1.size).tight (by have h := Hr.out; rw [e2] at h; exact h)
    have hnil : Num w'.heap.size w2 (.slice none 0 0) (n / m) ka := by
      rw [e1]
      exact ⟨[], ⟨none, rfl, by unfold maxLen; simp, fun h => absurd h (by simp)⟩, Nt.canon_nil, rfl, by simp⟩
    have HN := hide hnum
    have HZ := hide hnil
    clear hn hnum hnil e1 e2
    go_wp2
    go_ret3
    exact ⟨_, _, rfl, HZ.out, HN.out, sep_none _ _, hb12⟩
  · have hs : ¬ sgn n m < 0 := by unfold sgn; rw [if_neg hlt]; split <;> omega
    have hs2 : decide (sgn n m < 0) = false := decide_eq_false hs
    by_cases h1 : ys.length = 1
    · obtain ⟨b1, o1, rfl, _, hc⟩ := (hyc.below hb1) (by omega)
      have g0 := hc 0 (by omega)
      rw [Nat.add_zero] at g0
      have hv1 : Nt.lb ys 0 = m := by
        have h := HYv.out
        unfold Nt.val at h
        rw [h1] at h
        simpa [Nt.vt, Nt.pw] using h
      have bm := hy.1 0
      rw [hv1] at g0 bm
      have hq := (small_yes (aa.below hb1) (by omega) hm0 bm.2)
      have r0 : 0 ≤ n % m := Int.emod_nonneg _ (by omega)
      have r1 : n % m < m := Int.emod_lt_of_pos _ hm0
      clear hc
      go_wp2_with fail
      refine hq.mono ?_
      clear hq
      rintro e w2 ⟨v, rfl, hn, hb2⟩
      go_wp2_with fail
      refine (from_any (n % m) r0 (by omega)).mono ?_
      rintro e w3 ⟨v2, rfl, hn2, hb3⟩
      have hq1 : Num w'.heap.size w3 v (n / m) ka := (hn.below hb3).low hb1.size
      have hr1 : Num w'.heap.size w3 v2 (n % m) kb := (hn2.low (Nat.le_trans hb1.size hb2.size)).tight Hr.out
      have hbb := below_trans (below_trans hb1 hb2) hb3
      have HN := hide hr1
      have HZ := hide hq1
      have HSp := hide (sep_of hn hn2 (Nat.le_refl _))
      clear hn hn2 hq1 hr1
      go_wp2
      go_ret3
      exact ⟨_, _, rfl, HZ.out, HN.out, HSp.out, hbb⟩
    · obtain ⟨l, hl⟩ : ∃ l, ys.length = l + 2 := ⟨ys.length - 2, by omega⟩
      have hxy : ys.length ≤ xs.length := by
        rcases Nat.lt_or_ge xs.length ys.length with h | h
        · have := Nt.canon_lt hx.1 hy h; rw [HXv.out, HYv.out] at this; omega
        · exact h
      obtain ⟨nq, hnq⟩ : ∃ nq, xs.length + 1 = nq + ys.length := ⟨xs.length + 1 - ys.length, by omega⟩
      obtain ⟨b1, o1, rfl⟩ : ∃ b o, bo = some ⟨b, o, none⟩ := by
        obtain ⟨b, o, h, _⟩ := hyc hyp
        exact ⟨b, o, h⟩
      obtain ⟨b2, o2, hb2e, _, hc⟩ := (hyc.below hb1) hyp
      injection hb2e with hb2e
      injection hb2e with hb2e ho2e
      subst hb2e ho2e
      have g0 := hc (l + 1) (by omega)
      obtain ⟨l1, hl1⟩ : ∃ l1, l1 = l + 1 := ⟨_, rfl⟩
      rw [← hl1] at g0
      have q1 : (ys.length : Int) - 1 = (l1 : Int) := by omega
      have q2 : (l1 : Int) < (ys.length : Int) := by omega
      have q3 : ((ys.length : Int) == 1) = false := by simp; intro h; exact h1 (by omega)
      have bt := hy.1 l1
      have htop : Nt.lb ys l1 ≠ 0 := by
        have h := hy.2 (by intro e; subst e; simp at hyp)
        rw [show ys.length - 1 = l1 by omega] at h
        exact h
      have Htop := hide htop
      have Hl1 := hide hl1
      have Hl := hide hl
      have Hnq := hide hnq
      clear hc htop hl1 hl hnq
      go_wp2_with fail
      refine (leadz_any (Nt.lb ys l1) w1 bt.1 bt.2).mono ?_
      rintro e w2 ⟨k, rfl, hk, hk32, rfl⟩
      have hk0 : 0 < k := by
        rcases Nat.eq_zero_or_pos k with h | h
        · subst h
          have h2 := hk.1
          have h3 := Htop.out
          simp only [p2] at h2
          omega
        · exact h
      have hfits := raised_fits hy hyp (by rw [show ys.length - 1 = l1 by have := Hl.out; have := Hl1.out; omega]; exact hk) hk32
      obtain ⟨u, hu⟩ : ∃ u, u = 32 - k := ⟨_, rfl⟩
      rw [← hu] at hfits
      have HFits := hide hfits
      have Hk := hide hk
      have hu32 : u < 32 := by omega
      have hP := p2_pos u
      rw [← hu]
      clear hfits hk hu hk32 hk0
      go_wp2_with fail
      refine (raised_any (n := u) (ca := ca) (hxc.below hb1) hx.1 (by omega) hu32).mono ?_
      rintro e w3 ⟨g1, zs1, rfl, hg1, hr1, ho1, hzl1, hzv1, hb3⟩
      go_wp2_with fail
      refine (raised_any (n := u) (ca := cb) ((hyc.below hb1).below hb3) hy.1 (by omega) hu32).mono ?_
      rintro e w4 ⟨g2, vs0, rfl, hg2, hr2, ho2, hvl, hvv, hb4⟩
      have hzl : zs1.length = nq + ys.length := by rw [hzl1]; exact Hnq.out
      have hr1b := hr1.keeps hb4
      have hg12 : g2 ≠ g1 := by have := hr1.lt; omega
      have hvall : Nt.vt vs0 ys.length = Nt.val vs0 := Nt.vt_all ho2 (by omega) (by rw [hvv]; exact HFits.out)
      have hvt : Nt.val (vs0.take ys.length) = m * p2 u := by rw [Nt.val_take (by omega), hvall, hvv, HYv.out]
      have hvtl : (vs0.take ys.length).length = ys.length := by rw [List.length_take]; omega
      have hm1 : Nt.pw l1 ≤ m := by
        have h := Nt.canon_low hy (by intro e; subst e; simp at hyp)
        rw [HYv.out, show ys.length - 1 = l1 by have := Hl.out; have := Hl1.out; omega] at h
        exact h
      have hmP : m * 1 ≤ m * p2 u := Int.mul_le_mul_of_nonneg_left (by omega) (by omega)
      have hfirst : 0 < Nt.lb (vs0.take ys.length) (l + 1) := by
        rcases Int.lt_or_le 0 (Nt.lb (vs0.take ys.length) (l + 1)) with h | h
        · exact h
        · exfalso
          have h2 := (Nt.ok_take ho2 ys.length (l + 1)).1
          have h3 : Nt.lb (vs0.take ys.length) (l + 1) = 0 := by omega
          have h4 : Nt.val (vs0.take ys.length) = Nt.vt (vs0.take ys.length) (l + 1) := by
            have h6 := Nt.vt_succ (vs0.take ys.length) (l + 1)
            rw [h3, Int.zero_mul, Int.add_zero] at h6
            unfold Nt.val
            rw [hvtl, ← h6]
            exact congrArg _ Hl.out
          have h5 := (Nt.vt_bounds (Nt.ok_take ho2 ys.length) (l + 1)).2
          rw [← h4, hvt, ← Hl1.out] at h5
          omega
      have hzless : Nt.val zs1 < Nt.val (vs0.take ys.length) * Nt.pw nq := by
        rw [hzv1, hvt, HXv.out]
        have h1 : n < m * Nt.pw nq := by
          have h2 := aa.lt
          have h3 := Nt.val_lt hx.1
          rw [HXv.out, show xs.length = l1 + nq by have := Hl.out; have := Hl1.out; have := Hnq.out; omega, Nt.pw_add] at h3
          have h4 : Nt.pw l1 * Nt.pw nq ≤ m * Nt.pw nq := Int.mul_le_mul_of_nonneg_right hm1 (by have := Nt.pw_pos nq; omega)
          omega
        have h5 := Int.mul_lt_mul_of_pos_right h1 hP
        grind
      have hlong := long_any (w := w4) (vb := g2) (vo := 0) (bc := ys.length + 1) (g := g1) (nq := nq) (L := ys.length) (l := l) hr1b ho1 hzl hvtl Hl.out (by have := Hnq.out; omega) (row_cells_take hr2 (by omega)) (Nt.ok_take ho2 _) hg12 hfirst hzless
      rw [← Hnq.out] at hlong
      have HZ1 := hide hzv1
      have HVt := hide hvt
      have i5 : ys.length ≤ ys.length + 1 := by omega
      clear hvall hvv hvt hvtl hm1 hmP hfirst hzless hzv1 hzl1 hr1
      go_wp2_with fail
      with_reducible refine hlong.mono ?_
      clear hlong
      rintro e w5 ⟨gq, qs, zs2, rfl, hgq, hrq, hql, hqo, hrz, hzl2, hzo2, hval, hless, hon⟩
      have hR0 := Nt.val_nonneg hzo2
      obtain ⟨e1, e2, e3⟩ := div_parts (n := n) (m := m) (P := p2 u) (Q := Nt.val qs) (R := Nt.val zs2) hP hR0 (by rw [← HVt.out]; exact hless) (by rw [← HXv.out, ← HZ1.out, hval, HVt.out]) hm0
      have hb5 : Below w'.heap.size w' w5 := (below_trans (below_trans hb1 hb3) hb4).trans (hon.below (by have := hb1.size; omega) (by have := hb1.size; have := hb3.size; have := hb4.size; omega))
      have hArz : Arg w5 (.slice (some ⟨g1, 0, none⟩) (xs.length + 1) (xs.length + 1)) (Nt.val zs2) (xs.length + 1) := by
        have hzn : zs2.length = xs.length + 1 := by rw [hzl2, hzl]; exact Hnq.out.symm
        refine ⟨zs2, ⟨some ⟨g1, 0, none⟩, _, by rw [hzn], by rw [hzn]; exact Nat.le_refl _, by unfold maxLen; omega, fun _ => ⟨g1, 0, rfl, hrz.lt, fun i hi => by rw [Nat.zero_add]; exact hrz.cell hi⟩⟩, hzo2, rfl, by rw [hzn]; exact Nat.le_refl _⟩
      have hArq : Arg w5 (.slice (some ⟨gq, 0, none⟩) nq nq) (n / m) nq := by
        refine ⟨qs, ⟨some ⟨gq, 0, none⟩, _, by rw [hql], by rw [hql]; exact Nat.le_refl _, by have := Hnq.out; unfold maxLen; omega, fun _ => ⟨gq, 0, rfl, hrq.lt, fun i hi => by rw [Nat.zero_add]; exact hrq.cell hi⟩⟩, hqo, e1, by rw [hql]; exact Nat.le_refl _⟩
      have E2 := hide e2
      have Hzl := hide hzl
      clear e1 e2 e3 hval hless hql hzl2 hon hzl
      go_wp2_with fail
      with_reducible refine (shr_some hArz (by omega) hu32).mono ?_
      rintro e w6 ⟨v6, b6, rfl, hn6, hb6⟩
      go_wp2_with fail
      with_reducible refine (norm_any (hArq.below hb6) (by have := Hnq.out; omega)).mono ?_
      rintro e w7 ⟨v7, rfl, hn7, hb7⟩
      have hq1 : Num w'.heap.size w7 v7 (n / m) ka := (hn7.low (Nat.le_trans hb5.size hb6.size)).tight Hq.out
      have hr1 : Num w'.heap.size w7 v6 (n % m) kb := by
        have h := (hn6.below hb7).low hb5.size
        rw [E2.out] at h
        exact h.tight Hr.out
      have hbb := below_trans (below_trans hb5 hb6) hb7
      have HN := hide hr1
      have HZ := hide hq1
      have HSp := hide (sep_of hn6 hn7 (Nat.le_refl _)).symm
      clear hn6 hn7 hq1 hr1
      go_wp2
      go_ret3
      exact ⟨_, _, rfl, HZ.out, HN.out, HSp.out, hbb⟩

end Go.Proofs.YthoaibcoklgnhaaGreatDoor

namespace Go.Proofs.YthoaibcoklgnhaaGreatDoor
open Go.RowKit

/-- every list of limbs stays as it is -/
def Rws (w w' : World) : Prop := ∀ k zs, Row .u32 52 w k zs → Row .u32 52 w' k zs
theorem Rws.refl (w : World) : Rws w w := fun _ _ h => h
theorem Rws.trans {a b c : World} (h : Rws a b) (k : Rws b c) : Rws a c := fun _ _ r => k _ _ (h _ _ r)
theorem Rws.below {w w' : World} (h : Below w.heap.size w w') : Rws w w' := fun _ _ r => r.keeps h
theorem Rws.off {base g : Nat} {lv : Value} {ps : List (Value × Value)} {w w' : World} (h : Off g lv w w') (hk : Kept base w g lv ps) : Rws w w' := fun _ _ r => h.row hk r
theorem Rws.lies {w w' : World} (h : Rws w w') {v : Value} {xs : List Int} {c : Nat} (hl : Lies w v xs c) : Lies w' v xs c := by
  obtain ⟨ao, e, h1, h2, h3⟩ := hl
  refine ⟨ao, e, h1, h2, fun hc => ?_⟩
  obtain ⟨g, rest, e1, hr, h4⟩ := h3 hc
  exact ⟨g, rest, e1, h _ _ hr, h4⟩
theorem Rws.twin {w w' : World} (h : Rws w w') {B : Nat} {v : Value} {xs : List Int} (ht : Twin B w v xs) : Twin B w' v xs := by
  obtain ⟨g, h1, h2, h3, h4⟩ := ht
  exact ⟨g, h1, h2, h3, h _ _ h4⟩
theorem Rws.made {w w' : World} (h : Rws w w') {B : Nat} {v : Value} {zs : List Int} (hm : Made .u32 52 B w v zs) : Made .u32 52 B w' v zs := by
  obtain ⟨ao, rfl, h2, h3⟩ := hm
  refine ⟨ao, rfl, h2, fun hp => ?_⟩
  obtain ⟨g, rest, e1, hB, hr⟩ := h3 hp
  exact ⟨g, rest, e1, hB, h _ _ hr⟩
theorem Rws.num {w w' : World} (h : Rws w w') {B : Nat} {v : Value} {n : Int} {k : Nat} (hn : Num B w v n k) : Num B w' v n k := by
  obtain ⟨zs, h1, h2⟩ := hn
  exact ⟨zs, h.made h1, h2⟩
theorem Rws.mem {w w' : World} (h : Rws w w') {base : Nat} {all : List Value} (hm : Mem base w all) : Mem base w' all :=
  ⟨fun v hv => by obtain ⟨xs, c, h1, h2⟩ := hm.each v hv; exact ⟨xs, c, h.lies h1, h2⟩, hm.far, hm.above⟩
theorem Lies.arg {w : World} {v : Value} {xs : List Int} {c k : Nat} (h : Lies w v xs c) (ho : Nt.Ok xs) (hk : xs.length ≤ k) : Arg w v (Nt.val xs) k := ⟨xs, h.reads, ho, rfl, hk⟩
theorem Reads.argk {w : World} {v : Value} {xs : List Int} {k : Nat} (h : Reads .u32 w v xs) (ho : Nt.Ok xs) (hk : xs.length ≤ k) : Arg w v (Nt.val xs) k := ⟨xs, h, ho, rfl, hk⟩

theorem blk_form {v : Value} {k : Nat} (h : blk v = some k) : ∃ a n c, v = .slice (some a) n (c + 1) ∧ a.block = k := by
  unfold blk at h
  split at h
  · exact ⟨_, _, _, rfl, Option.some.inj h⟩
  · cases h
theorem Sep.far {q r : Value} (h : Sep q r) : Far q r := by
  intro k hq hr
  obtain ⟨a, n, c, e, e1⟩ := blk_form hq
  obtain ⟨a', n', c', e', e1'⟩ := blk_form hr
  exact h _ _ _ _ _ _ e e' (e1.trans e1'.symm)

theorem Mem.perm {base : Nat} {w : World} {l l' : List Value} (h : Mem base w l) (hp : l.Perm l') : Mem base w l' :=
  ⟨fun v hv => h.each v (hp.mem_iff.2 hv), (hp.pairwise_iff Far.symm).1 h.far, fun v hv => h.above v (hp.mem_iff.2 hv)⟩
/-- two new answers, in unlike memory -/
theorem Mem.snoc2 {base : Nat} {w w' : World} {all : List Value} {q r : Value} {n m : Int} {k k' : Nat} (h : Mem base w all) (hb : Below w.heap.size w w') (hq : Num w.heap.size w' q n k) (hr : Num w.heap.size w' r m k') (hs : Sep q r) (hk : k ≤ 4000000) (hk' : k' ≤ 4000000) (hB : base ≤ w.heap.size) : Mem base w' (all ++ [q] ++ [r]) := by
  have h1 := h.snoc hb hq hk hB
  have h2 := h.snoc hb hr hk' hB
  refine ⟨fun u hu => ?_, List.pairwise_append.2 ⟨h1.far, by simp, fun u hu v' hv' => ?_⟩, fun u hu j hj => ?_⟩
  · rcases List.mem_append.1 hu with hu | hu
    · exact h1.each u hu
    · exact h2.each u (List.mem_append.2 (.inr hu))
  · rcases List.mem_append.1 hu with hu | hu
    · exact (List.pairwise_append.1 h2.far).2.2 u hu v' hv'
    · rw [List.mem_singleton.1 hv', List.mem_singleton.1 hu]
      exact hs.far
  · rcases List.mem_append.1 hu with hu | hu
    · exact h1.above u hu j hj
    · exact h2.above u (List.mem_append.2 (.inr hu)) j hj
theorem Mem.one {base : Nat} {w : World} {v : Value} {xs : List Int} {c : Nat} (h : Lies w v xs c) (hl : xs.length ≤ 4000000) (hb : ∀ k, blk v = some k → base ≤ k) : Mem base w [v] :=
  ⟨fun u hu => by rw [List.mem_singleton.1 hu]; exact ⟨xs, c, h, hl⟩, by simp, fun u hu => by rw [List.mem_singleton.1 hu]; exact hb⟩
/-- nothing said is no answer in memory -/
theorem Mem.nils {base : Nat} {w : World} {all : List Value} (h : Mem base w all) : Mem base w (all ++ [.slice none 0 0] ++ [.slice none 0 0]) := by
  have hf : ∀ u : Value, Far u (.slice none 0 0) := fun u k _ hk => by rw [blk_none] at hk; cases hk
  have hl : ∃ xs c, Lies w (.slice none 0 0) xs c ∧ xs.length ≤ 4000000 := ⟨[], 0, ⟨none, rfl, Nat.le_refl _, by unfold maxLen; omega, fun h => absurd h (by omega)⟩, by simp⟩
  refine ⟨fun u hu => ?_, ?_, fun u hu j hj => ?_⟩
  · simp only [List.append_assoc, List.mem_append, List.mem_cons, List.not_mem_nil, or_false] at hu
    rcases hu with hu | hu | hu
    · exact h.each u hu
    · rw [hu]; exact hl
    · rw [hu]; exact hl
  · refine List.pairwise_append.2 ⟨List.pairwise_append.2 ⟨h.far, by simp, fun u _ v hv => ?_⟩, by simp, fun u _ v hv => ?_⟩
    · rw [List.mem_singleton.1 hv]; exact hf u
    · rw [List.mem_singleton.1 hv]; exact hf u
  · simp only [List.append_assoc, List.mem_append, List.mem_cons, List.not_mem_nil, or_false] at hu
    rcases hu with hu | hu | hu
    · exact h.above u hu j hj
    · rw [hu, blk_none] at hj; cases hj
    · rw [hu, blk_none] at hj; cases hj

/-- one list's memory is written over -/
theorem Mem.wrote {base g : Nat} {w w' : World} {all : List Value} {os zs : List Int} (h : Mem base w all) (ho : Only g w w') (hr : Row .u32 52 w g os) (hr' : Row .u32 52 w' g zs) (hl : zs.length = os.length) : Mem base w' all := by
  refine ⟨fun v hv => ?_, h.far, h.above⟩
  obtain ⟨xs, c, h1, h2⟩ := h.each v hv
  by_cases hg : blk v = some g
  · obtain ⟨e, rest, hrow, hc⟩ := h1.own hg
    have hc2 := h1
    obtain ⟨_, _, h3, h4, _⟩ := hc2
    have hlen : (xs ++ rest).length = os.length := by
      unfold Row at hrow hr
      rw [hr] at hrow
      injection hrow with e1
      injection e1 with e1
      have e2 := congrArg Array.size e1
      simpa using e2.symm
    have hx : xs.length ≤ zs.length := by rw [hl, ← hlen]; simp
    refine ⟨zs.take xs.length, c, ⟨_, by rw [e, List.length_take, Nat.min_eq_left hx], by rw [List.length_take, Nat.min_eq_left hx]; exact h3, h4, fun _ => ⟨g, zs.drop xs.length, rfl, by rw [List.take_append_drop]; exact hr', by rw [List.take_append_drop, hl, ← hlen]; exact hc⟩⟩, by rw [List.length_take, Nat.min_eq_left hx]; exact h2⟩
  · refine ⟨xs, c, h1.keep fun k hk => ?_, h2⟩
    exact ho.block k (h1.lt hk) (fun e => hg (by rw [← e]; exact hk))
theorem Only.grownBy {g : Nat} {w w' : World} (h : Only g w w') : w.grownBy w' (some g) :=
  ⟨h.os, h.tape, h.output, h.size, fun k hk hn => h.block k hk (fun e => hn (by rw [e]))⟩

end Go.Proofs.YthoaibcoklgnhaaGreatDoor

namespace Go.Proofs.YthoaibcoklgnhaaGreatDoor
open Go.RowKit

set_option maxHeartbeats 2000000 in
theorem rgcd_any {w : World} {va vb : Value} {n m : Int} {ka kb : Nat} (ha : Arg w va n ka) (hb : Arg w vb m kb) (hka : ka ≤ 549755813888) (hkb : kb ≤ 549755813888) :
    Calls Tryz.prog 70 #[va, vb] w fun e w' => ∃ v, e = .returned v ∧ Num w.heap.size w' v (gd n m) (max ka kb) ∧ Below w.heap.size w w' := by
  have hn0 := ha.nonneg
  have hm0 := hb.nonneg
  go_enter Tryz.func70, Tryz.ntmps70
  go_wp2_with fail
  refine (rnorm_any ha (by omega)).mono ?_
  rintro e w1 ⟨va1, rfl, hna, hb1⟩
  go_wp2_with fail
  refine (rnorm_any (hb.below hb1) (by omega)).mono ?_
  rintro e w2 ⟨vb1, rfl, hnb, hb2⟩
  have hna2 : Num w.heap.size w2 va1 n (max ka kb) := (hna.below hb2).mono (by omega)
  have hnb2 : Num w.heap.size w2 vb1 m (max ka kb) := (hnb.low hb1.size).mono (by omega)
  have hb12 := below_trans hb1 hb2
  clear ha hb hna hnb hb1 hb2
  go_wp2
  go_loopg [0, 1] m.toNat (fun c sa sb wr => ∃ (x y : Int), y.toNat = c ∧ 0 ≤ x ∧ 0 ≤ y ∧ Num w.heap.size wr sa x (max ka kb) ∧ Num w.heap.size wr sb y (max ka kb) ∧ gd x y = gd n m ∧ Below w.heap.size w wr)
  case atStart => exact ⟨n, m, rfl, hn0, hm0, hna2, hnb2, rfl, hb12⟩
  case round =>
    clear hna2 hnb2 hb12
    obtain ⟨x, y, hyc, hx0, hy0, hnx, hny, hg, hbw⟩ := hrel
    have hax := hnx.arg
    have hay := hny.arg
    obtain ⟨zs, ⟨bo, hsb, hzm, hzr⟩, hzc, hzv, hzk⟩ := hny
    have hny : Num w.heap.size wr (.slice bo zs.length zs.length) y (max ka kb) := ⟨zs, ⟨bo, rfl, hzm, hzr⟩, hzc, hzv, hzk⟩
    subst hsb
    by_cases hy : y = 0
    · have hze := (Nt.canon_zero hzc).1 (hzv.trans hy)
      have hgn : gd n m = x := by rw [← hg, hy]; exact gd_zero hx0
      have HG := hide hgn
      subst hze
      clear hgn hg hzr hzc hzv hny hay hyc hy hzm hzk
      go_wp2
      go_ret
      exact ⟨_, rfl, by rw [HG.out]; exact hnx, hbw⟩
    · have hzp : 0 < zs.length := by
        rcases Nat.eq_zero_or_pos zs.length with h | h
        · rw [List.eq_nil_of_length_eq_zero h, Nt.val_nil] at hzv; omega
        · exact h
      have hzp2 : (0 : Int) < (zs.length : Int) := by omega
      have hgs : gd y (x % y) = gd n m := by rw [← hg]; exact (gd_step hx0 hy0).symm
      have HGs := hide hgs
      have hlt : (x % y).toNat < y.toNat := emod_toNat (show 0 < y by omega)
      have h2 := Int.emod_nonneg x hy
      have hd := rdiv_any hax hay (by omega) (by omega) hy
      clear hgs hg hzr hzc hzv hax hay
      go_wp2_with fail
      with_reducible refine hd.mono ?_
      clear hd
      rintro e w3 ⟨q, r, rfl, hq, hr, hb3⟩
      have hr2 := hr.low hbw.size
      have hny2 := hny.below hb3
      have hbb := below_trans hbw hb3
      clear hq hr hnx
      go_wp2
      go_roundg (x % y).toNat
      case measure => omega
      case rel => exact ⟨y, x % y, rfl, hy0, h2, hny2, hr2, HGs.out, hbb⟩

theorem same_twin {w : World} {va vb : Value} {xs : List Int} {c B : Nat} (ha : Lies w va xs c) (hb : Twin B w vb xs) :
    Calls Tryz.prog 18 #[va, vb] w fun e w' => e = .returned (.bool true) ∧ Below w.heap.size w w' := by
  have h := same_any ha.reads hb.reads
  rw [decide_eq_true rfl] at h
  exact h

set_option maxRecDepth 20000 in
set_option maxHeartbeats 4000000 in
theorem common_any {base g : Nat} {w : World} {lv xv yv : Value} {all M : List Value} {xs ys : List Int} {ca cb : Nat} (hk : Kept base w g lv (nilled all)) (hm : Mem base w M) (hB : base ≤ w.heap.size) (hn : all.length < 900) (hx : Lies w xv xs ca) (hy : Lies w yv ys cb) (ox : Nt.Ok xs) (oy : Nt.Ok ys) (lx : xs.length ≤ 1048576) (ly : ys.length ≤ 1048576) :
    Calls Tryz.prog 13 #[.pointer (some ⟨g, 0, none⟩), xv, yv] w fun e w' => e = .returned (.bool true) ∧ ∃ lv' q, Kept base w' g lv' (nilled (all ++ [q])) ∧ Mem base w' (M ++ [q]) ∧ Rws w w' ∧ Below base w w' := by
  have HX := hide hx
  have HY := hide hy
  obtain ⟨ao, rfl, _⟩ := hx
  obtain ⟨bo, rfl, _⟩ := hy
  go_enter Tryz.func13, Tryz.ntmps13
  go_wp2_with fail
  with_reducible refine (twin_any HX.out.reads (by omega)).mono ?_
  rintro e w1 ⟨va, rfl, ta, hb1⟩
  have TA := hide ta
  obtain ⟨ga, rfl, _⟩ := ta
  go_wp2_with fail
  with_reducible refine (twin_any (HY.out.below hb1).reads (by omega)).mono ?_
  rintro e w2 ⟨vb, rfl, tb, hb2⟩
  have TB := hide tb
  obtain ⟨gb, rfl, _⟩ := tb
  go_wp2_with fail
  with_reducible refine (rgcd_any ((TA.out.below hb2).reads.argk ox lx) (TB.out.reads.argk oy ly) (by omega) (by omega)).mono ?_
  rintro e w3 ⟨vq, rfl, hq3, hb3⟩
  have hb03 := below_trans (below_trans hb1 hb2) hb3
  have HQ3 := hide hq3
  obtain ⟨_, ⟨aq, rfl, _⟩, _⟩ := hq3
  go_wp2_with fail
  with_reducible refine (gcd_any ((HX.out.below hb03).arg ox lx) ((HY.out.below hb03).arg oy ly) (by omega) (by omega)).mono ?_
  rintro e w4 ⟨q, rfl, hq4, hb4⟩
  have hb04 := below_trans hb03 hb4
  have HM4 := hide ((hm.below hb03).snoc hb4 hq4 (by simp) (by have := hb03.size; omega))
  have HK4 := hide (hk.below hb04)
  have hs4 : base ≤ w4.heap.size := by have := hb04.size; omega
  have hW4 : Below base w w4 := hb04.mono hB
  have HQ4 := hide hq4
  obtain ⟨_, ⟨aq', rfl, _⟩, _⟩ := hq4
  have R4 : Hid (Rws w w4) := hide (Rws.below hb04)
  have S4 := hide ((TA.out.below hb2).below hb3 |>.below hb4)
  have A4 := hide ((TB.out.below hb3).below hb4)
  have P4 := hide (HQ3.out.below hb4)
  clear hk hm hb04 hb03 hb4 hb3 hb2 hb1 TA TB HQ3
  go_wp2_with fail
  with_reducible refine (nat_any HK4.out hs4 (by rw [nilled_length]; omega)).mono ?_
  rintro e w6 ⟨rfl, lv6, hk6, hoff6⟩
  have R6 := hide (Rws.off hoff6 HK4.out)
  have hW6 := hW4.trans (hoff6.below HK4.out hs4)
  rw [← nilled_snoc] at hk6
  have HK6 := hide hk6
  have HM6 := hide (R6.out.mem HM4.out)
  have SM1 := hide (same_num (R6.out.num HQ4.out) (R6.out.num P4.out) rfl)
  have RW6 := hide (R4.out.trans R6.out)
  have S6 := hide (R6.out.twin S4.out)
  have A6 := hide (R6.out.twin A4.out)
  have X6 := hide (RW6.out.lies HX.out)
  have Y6 := hide (RW6.out.lies HY.out)
  clear hk6 hoff6 hW4 HK4 R6 R4 HM4 HQ4 P4 S4 A4 hs4
  go_wp2_with fail
  with_reducible refine SM1.out.mono ?_
  rintro e w8 ⟨rfl, hb8⟩
  go_wp2_with fail
  with_reducible refine (same_twin (X6.out.below hb8) (S6.out.below hb8)).mono ?_
  rintro e w9 ⟨rfl, hb9⟩
  go_wp2_with fail
  with_reducible refine (same_twin ((Y6.out.below hb8).below hb9) ((A6.out.below hb8).below hb9)).mono ?_
  rintro e w10 ⟨rfl, hb10⟩
  have hb610 := below_trans (below_trans hb8 hb9) hb10
  clear hb8 hb9 hb10
  have F1 := hide (HK6.out.below hb610)
  have F2 := hide (HM6.out.below hb610)
  have F3 := hide (RW6.out.trans (Rws.below hb610))
  have F4 := hide (hW6.trans (hb610.mono (by have := hW6.size; omega)))
  clear hW6 hb610
  go_wp2
  go_ret
  exact ⟨rfl, lv6, _, F1.out, F2.out, F3.out, F4.out⟩

end Go.Proofs.YthoaibcoklgnhaaGreatDoor

namespace Go.Proofs.YthoaibcoklgnhaaGreatDoor
open Go.RowKit

theorem ok_nil : Nt.Ok [] := fun i => by unfold Nt.lb; simp
theorem ok_app {xs : List Int} {z : Int} (h : Nt.Ok xs) (hz : 0 ≤ z ∧ z < 4294967296) : Nt.Ok (xs ++ [z]) := by
  intro i
  rcases Nat.lt_or_ge i xs.length with hi | hi
  · rw [lb_append_left hi]; exact h i
  · unfold Nt.lb
    rw [List.getD_eq_getElem?_getD, List.getElem?_append_right hi]
    cases hk : i - xs.length with
    | zero => simpa using hz
    | succ k => simp
theorem lies_nil (w : World) : Lies w (.slice none 0 0) [] 0 := ⟨none, rfl, Nat.le_refl _, by unfold maxLen; omega, fun h => absurd h (by omega)⟩
theorem lies_over {w : World} {g n : Nat} {zs : List Int} (h : Row .u32 52 w g zs) (hl : zs.length = n + 1) (hm : n + 1 ≤ maxLen) : Lies w (.slice (some ⟨g, 0, none⟩) n (n + 1)) (zs.take n) (n + 1) := by
  have e : (zs.take n).length = n := by rw [List.length_take]; omega
  exact ⟨_, by rw [e], by rw [e]; omega, hm, fun _ => ⟨g, zs.drop n, rfl, by rw [List.take_append_drop]; exact h, by rw [List.take_append_drop]; omega⟩⟩
theorem only_lies {g : Nat} {w w' : World} (h : Only g w w') {v : Value} {xs : List Int} {c : Nat} (hl : Lies w v xs c) (hn : ¬ blk v = some g) : Lies w' v xs c :=
  hl.keep fun k hk => h.block k (hl.lt hk) (fun e => hn (by rw [← e]; exact hk))

set_option maxRecDepth 20000 in
set_option maxHeartbeats 4000000 in
theorem over_any {wa w : World} {g n : Nat} {old ys : List Int} {bv : Value} (hr : Row .u32 52 w g old) (ho : Nt.Ok old) (hl : old.length = n + 1) (hn : n ≤ 1048576) (hb : Reads .u32 wa bv ys) (oy : Nt.Ok ys) (hw : Below wa.heap.size wa w) (hg : wa.heap.size ≤ g) :
    Calls Tryz.prog 10 #[.slice (some ⟨g, 0, none⟩) n (n + 1), bv] w fun e w' => e = .returned (.tuple #[]) ∧ ∃ zs, zs.length = n + 1 ∧ Nt.Ok zs ∧ Row .u32 52 w' g zs ∧ Only g w w' := by
  obtain ⟨bo, cb, rfl, hyl, hym, hyc⟩ := hb
  unfold maxLen at hym
  go_enter Tryz.func10, Tryz.ntmps10
  go_wp2
  go_loopw [4] (fun si wr => ∃ (k : Nat) (zs : List Int), k ≤ n ∧ si = .int .i64 k ∧ zs.length = n + 1 ∧ Nt.Ok zs ∧ Row .u32 52 wr g zs ∧ Only g w wr ∧ Below wa.heap.size wa wr) (fun si _ => n - (intOf si).toNat)
  case atStart => exact ⟨0, old, by omega, rfl, hl, ho, hr, Only.refl _ _, hw⟩
  case round =>
    obtain ⟨k, zs, hk, rfl, hzl, hzo, hrow, hon, hbr⟩ := hrel
    clear hr ho hl hw
    have Hzl := hide hzl
    clear hzl
    by_cases hkl : k < n
    · by_cases hy0 : 0 < ys.length
      · obtain ⟨b, off, rfl, hbl, hc⟩ := (hyc.below hbr) hy0
        obtain ⟨j, hj⟩ : ∃ j, j = k % ys.length := ⟨_, rfl⟩
        have hjl : j < ys.length := by rw [hj]; exact Nat.mod_lt _ hy0
        have hjk : (k : Int) % (ys.length : Int) = (j : Int) := by rw [hj]; simp
        have g1 := hc j hjl
        have g2 := hrow.cell (i := k) (by have := Hzl.out; omega)
        have hfz := hrow.frozen k
        have y0 : ¬ (ys.length : Int) = 0 := by omega
        have y1 : (0 : Int) < (ys.length : Int) := by omega
        have j1 : (j : Int) < (ys.length : Int) := by omega
        clear hc hyc hj
        go_wp2
        go_roundw
        case rel => exact ⟨k + 1, zs.set k (Nt.lb ys j), by omega, by go_num, by rw [List.length_set, Hzl.out], Nt.ok_set hzo (oy j), hrow.set _ _, hon.set _ _, hbr.setCell (p := ⟨g, k, none⟩) hg _⟩
        case measure => simp [intOf]; omega
      · have hye : ys.length = 0 := by omega
        have HZ : Hid (zs.length = n + 1 ∧ Nt.Ok zs ∧ Row .u32 52 wr g zs ∧ Only g w wr) := hide ⟨Hzl.out, hzo, hrow, hon⟩
        clear hzo hrow hon hyc
        go_wp2
        go_end0
        exact ⟨rfl, zs, HZ.out⟩
    · have HZ : Hid (zs.length = n + 1 ∧ Nt.Ok zs ∧ Row .u32 52 wr g zs ∧ Only g w wr) := hide ⟨Hzl.out, hzo, hrow, hon⟩
      clear hzo hrow hon hyc
      go_wp2
      go_end0
      exact ⟨rfl, zs, HZ.out⟩

end Go.Proofs.YthoaibcoklgnhaaGreatDoor

namespace Go.Proofs.YthoaibcoklgnhaaGreatDoor
open Go.RowKit

set_option maxRecDepth 20000 in
set_option maxHeartbeats 8000000 in
theorem common_walk {w : World} {va vb : Value} {xs ys : List Int} (ha : Reads .u32 w va xs) (hb : Reads .u32 w vb ys) (ox : Nt.Ok xs) (oy : Nt.Ok ys) (lx : xs.length ≤ 1048576) (ly : ys.length ≤ 1048576) :
    Calls Tryz.prog 4 #[va, vb] w fun e w' => e = .returned (.bool true) ∧ Below w.heap.size w w' := by
  have HA := hide ha
  have HB := hide hb
  obtain ⟨ao, ca, rfl, _⟩ := ha
  obtain ⟨bo, cb, rfl, _⟩ := hb
  go_enter Tryz.func4, Tryz.ntmps4
  obtain ⟨w0, hw0⟩ : ∃ w0, w0 = w.alloc (.cells (bookCells 0 (.slice none 0 0)) 39) := ⟨_, rfl⟩
  have hb0 : Below w.heap.size w w0 := by rw [hw0]; exact below_alloc w _
  have HK0 : Hid (Kept w.heap.size w0 w.heap.size (.slice none 0 0) (nilled [])) := hide (by
    refine ⟨Nat.le_refl _, ?_, World.ownsRow_nil _ _ _ _⟩
    unfold BookAt
    rw [hw0, heap_alloc_new]
    rfl)
  go_wp2_with fail
  have hw0' : w.alloc (.cells #[.int .i64 0, .slice none 0 0, .slice none 0 0, .slice none 0 0, .slice none 0 0, .slice none 0 0, .slice none 0 0, .slice none 0 0, .slice none 0 0, .slice none 0 0, .slice none 0 0, .slice none 0 0, .slice none 0 0, .slice none 0 0, .slice none 0 0] 39) = w0 := by rw [hw0]; rfl
  rw [hw0']
  clear hw0 hw0'
  with_reducible refine (twin_any (HA.out.below hb0) (by omega)).mono ?_
  rintro e w1 ⟨xv, rfl, tx, hb1⟩
  go_wp2_with fail
  with_reducible refine (twin_any ((HB.out.below hb0).below hb1) (by omega)).mono ?_
  rintro e w2 ⟨yv, rfl, ty, hb2⟩
  have TX := hide (tx.below hb2)
  have TY := hide ty
  obtain ⟨gx, hxv, hgx, _, hrx0⟩ := tx
  obtain ⟨gy, hyv, hgy, _⟩ := ty
  have hne : gy ≠ gx := by have := hrx0.lt; omega
  clear hrx0 hgy
  rw [hxv] at TX
  rw [hyv] at TY
  subst hxv hyv
  have hg0 : w.heap.size ≤ gx := by have := hb0.size; omega
  have HM := hide (Mem.one (base := w.heap.size) TX.out.lies.1 (by omega) (fun k hk => by have := TX.out.lies.2 k hk; have := hb0.size; omega))
  have HK := hide ((HK0.out.below hb1).below hb2)
  have hW := below_trans (below_trans hb0 hb1) hb2
  have R := hide (Rws.refl w2)
  have hln : ([] : List Value).length = 0 := rfl
  clear HK0 hb0 hb1 hb2
  go_wp2_with fail
  with_reducible refine (common_any (all := []) HK.out HM.out hW.size (by simp) (R.out.lies TX.out.lies.1) (R.out.lies TY.out.lies.1) ox oy lx ly).mono ?_
  rintro e w3 ⟨rfl, lv3, q3, hk, hm, hr, hw⟩
  replace HK := hide hk
  replace HM := hide hm
  replace R := hide (R.out.trans hr)
  replace hW := hW.trans hw
  clear hk hm hr hw
  go_wp2_with fail
  with_reducible refine (common_any (all := [] ++ [q3]) HK.out HM.out hW.size (by simp) (R.out.lies TY.out.lies.1) (R.out.lies TX.out.lies.1) oy ox ly lx).mono ?_
  rintro e w4 ⟨rfl, lv4, q4, hk, hm, hr, hw⟩
  replace HK := hide hk
  replace HM := hide hm
  replace R := hide (R.out.trans hr)
  replace hW := hW.trans hw
  clear hk hm hr hw
  go_wp2_with fail
  with_reducible refine (common_any (all := [] ++ [q3] ++ [q4]) HK.out HM.out hW.size (by simp) (R.out.lies TX.out.lies.1) (R.out.lies TY.out.lies.1) ox oy lx ly).mono ?_
  rintro e w5 ⟨rfl, lv5, q5, hk, hm, hr, hw⟩
  replace HK := hide hk
  replace HM := hide hm
  replace R := hide (R.out.trans hr)
  replace hW := hW.trans hw
  clear hk hm hr hw
  go_wp2_with fail
  with_reducible refine (common_any (all := [] ++ [q3] ++ [q4] ++ [q5]) HK.out HM.out hW.size (by simp) (R.out.lies TX.out.lies.1) (lies_nil _) ox ok_nil lx (by simp)).mono ?_
  rintro e w6 ⟨rfl, lv6, q6, hk, hm, hr, hw⟩
  replace HK := hide hk
  replace HM := hide hm
  replace R := hide (R.out.trans hr)
  replace hW := hW.trans hw
  clear hk hm hr hw
  have TX2 := hide (R.out.twin TX.out)
  have TY2 := hide (R.out.twin TY.out)
  clear TX TY R
  go_wp2_with fail
  with_reducible refine (left_any TX2.out (HA.out.below hW)).mono ?_
  rintro e wl ⟨rfl, hbl⟩
  replace TX2 := hide (TX2.out.below hbl)
  replace TY2 := hide (TY2.out.below hbl)
  replace HK := hide (HK.out.below hbl)
  replace HM := hide (HM.out.below hbl)
  replace hW := below_trans hW hbl
  clear hbl
  go_wp2_with fail
  with_reducible refine (left_any TY2.out (HB.out.below hW)).mono ?_
  rintro e wm ⟨rfl, hbl⟩
  replace TX2 := hide (TX2.out.below hbl)
  replace TY2 := hide (TY2.out.below hbl)
  replace HK := hide (HK.out.below hbl)
  replace HM := hide (HM.out.below hbl)
  replace hW := below_trans hW hbl
  clear hbl
  go_wp2_with fail
  with_reducible refine (nat_any HK.out hW.size (by rw [nilled_length]; simp)).mono ?_
  rintro e wn ⟨rfl, lvn, hk, hoff⟩
  have R := hide (Rws.off hoff HK.out)
  replace TX2 := hide (R.out.twin TX2.out)
  replace TY2 := hide (R.out.twin TY2.out)
  have hmx := R.out.mem HM.out
  have hmy : Mem w.heap.size wn ([.slice (some ⟨gx, 0, none⟩) xs.length (xs.length + 1)] ++ ([] ++ [q3] ++ [q4] ++ [q5] ++ [q6])) := by simpa using hmx
  replace HM := hide (hmy.perm List.perm_append_comm)
  clear hmx hmy
  replace hW := hW.trans (hoff.below HK.out hW.size)
  rw [← nilled_snoc] at hk
  replace HK := hide hk
  clear hk hoff R
  obtain ⟨gx', ex, _, hmx, hrx⟩ := TX2.out
  cases ex
  go_wp2_with fail
  with_reducible refine (over_any (n := xs.length) hrx (ok_app ox (by omega)) (by simp) lx HB.out oy hW hg0).mono ?_
  rintro e wo ⟨rfl, zs, hzl, hzo, hrz, hon⟩
  replace HM := hide (HM.out.wrote hon hrx hrz (by rw [hzl]; simp))
  replace HK := hide (HK.out.grown hon.grownBy (fun k e => by cases e; exact ⟨_, hrx⟩))
  have LX := hide (lies_over (n := xs.length) hrz hzl hmx)
  have LY := hide (only_lies hon TY2.out.lies.1 (by intro e; cases e; exact hne rfl))
  replace hW := hW.trans (hon.below hg0 hW.size)
  have R := hide (Rws.refl wo)
  clear hon hrx TX2 TY2
  go_wp2_with fail
  with_reducible refine (common_any (all := ([] ++ [q3] ++ [q4] ++ [q5] ++ [q6]) ++ [.slice (some ⟨gx, 0, none⟩) xs.length (xs.length + 1)]) HK.out HM.out hW.size (by simp) LX.out LY.out (Nt.ok_take hzo _) oy (by rw [List.length_take]; omega) ly).mono ?_
  rintro e w7 ⟨rfl, lv7, q7, hk, hm, hr, hw⟩
  replace HK := hide hk
  replace HM := hide hm
  replace R := hide (R.out.trans hr)
  replace hW := hW.trans hw
  clear hk hm hr hw
  have hap := apart_mem HK.out hW.size (by simp) (by first | exact HM.out | simpa using HM.out)
  go_wp2_with fail
  with_reducible refine hap.mono ?_
  clear hap HK HM
  rintro e wp ⟨rfl, hB⟩
  replace hW := hW.trans hB
  clear hB
  go_wp2_with fail
  with_reducible refine qlives_any.mono ?_
  rintro e wq ⟨rfl, hB⟩
  replace hW := below_trans hW hB
  clear hB
  go_wp2
  go_ret
  exact ⟨rfl, hW⟩

theorem common_arg {w : World} {va vb : Value} {n m : Int} {ka kb : Nat} (ha : Arg w va n ka) (hb : Arg w vb m kb) (hka : ka ≤ 1048576) (hkb : kb ≤ 1048576) :
    Calls Tryz.prog 4 #[va, vb] w fun e w' => e = .returned (.bool true) ∧ Below w.heap.size w w' := by
  obtain ⟨xs, h1, h2, _, h3⟩ := ha
  obtain ⟨ys, g1, g2, _, g3⟩ := hb
  exact common_walk h1 g1 h2 g2 (by omega) (by omega)

end Go.Proofs.YthoaibcoklgnhaaGreatDoor
