/- DivFar, DvKit, DvOver, RDg, RRd, DgWalk -/
import Derived.Test.YtllddhiflnfhaaaGreatDoorDiv
import Derived.Test.YtllddhiflnfhaaaGreatDoorQMem
import Derived.Test.YtllddhiflnfhaaaGreatDoorTwin
import Derived.Test.YtllddhiflnfhaaaGreatDoorQGm
import Derived.Test.YtllddhiflnfhaaaGreatDoorRefBD
import Derived.Test.YtllddhiflnfhaaaGreatDoorAppZero
import Derived.Laws.BytesArg
import Derived.Deep.LoopGhost
import Derived.Deep.RegionHeld3
import Derived.Deep.Cut
import Derived.Test.YtllddhiflnfhaaaGreatDoorSame
import Derived.Test.YtllddhiflnfhaaaGreatDoorQLives
namespace Go.Proofs.YtllddhiflnfhaaaGreatDoor
open Go.RowKit

/-- two lists with room lie in unlike blocks -/
def Sep (q r : Value) : Prop := ∀ a n c a' n' c', q = .slice (some a) n (c + 1) → r = .slice (some a') n' (c' + 1) → a.block ≠ a'.block
theorem Sep.symm {q r : Value} (h : Sep q r) : Sep r q := fun a n c a' n' c' e e' g => h a' n' c' a n c e' e g.symm
theorem sep_none (n : Nat) (r : Value) : Sep (.slice none n 0) r := fun a n c a' n' c' e _ => by cases e
theorem sep_of {B B' : Nat} {w w' : World} {q r : Value} {x y : Int} {k k' : Nat} (hq : Num B w q x k) (hr : Num B' w' r y k') (h : w.heap.size ≤ B') : Sep q r := by
  intro a n c a' n' c' e e' g
  obtain ⟨zs, ⟨ao, e1, _, h1⟩, _⟩ := hq
  obtain ⟨zs', ⟨ao', e1', _, h1'⟩, _⟩ := hr
  rw [e1] at e
  rw [e1'] at e'
  injection e with e2 _ e3
  injection e' with e2' _ e3'
  obtain ⟨gb, rest, hg, _, hrow⟩ := h1 (by omega)
  obtain ⟨gb', rest', hg', hB, hrow'⟩ := h1' (by omega)
  rw [hg] at e2
  rw [hg'] at e2'
  injection e2 with e2
  injection e2' with e2'
  have l := hrow.lt
  rw [← e2, ← e2'] at g
  simp only at g
  omega

set_option maxRecDepth 20000 in
set_option maxHeartbeats 4000000 in
theorem div_far {w : World} {va vb : Value} {n m : Int} {ka kb : Nat} (ha : Arg w va n ka) (hb : Arg w vb m kb) (hka : ka ≤ 549755813888) (hkb : kb ≤ 549755813888) (hm0 : 0 < m) :
    Calls Tryz.prog 71 #[va, vb] w fun e w' => ∃ q r, e = .returned (.tuple #[q, r, .bool true]) ∧ Num w.heap.size w' q (n / m) ka ∧ Num w.heap.size w' r (n % m) kb ∧ Sep q r ∧ Below w.heap.size w w' := by
  have hn0 := ha.nonneg
  have hnlt := ha.lt
  have hmlt := hb.lt
  have hqlt : n / m < Nt.pw ka := Int.lt_of_le_of_lt (Int.ediv_le_self _ hn0) hnlt
  have hrlt : n % m < Nt.pw kb := Int.lt_trans (Int.emod_lt_of_pos _ hm0) hmlt
  have Hq := hide hqlt
  have Hr := hide hrlt
  clear hqlt hrlt hnlt hmlt
  go_enter Tryz.func71, Tryz.ntmps71
  go_wp2_with fail
  refine (cut_arg ha (by omega)).mono ?_
  rintro e w' ⟨rfl, ao, xs, ca, rfl, hxl, hxm, hxk, hxc, hx, hxv⟩
  go_wp2_with fail
  refine (cut_arg hb (by omega)).mono ?_
  rintro e w' ⟨rfl, bo, ys, cb, rfl, hyl, hym, hyk, hyc, hy, hyv⟩
  have hyp : 0 < ys.length := by
    rcases Nat.eq_zero_or_pos ys.length with h0 | h0
    · rw [List.eq_nil_of_length_eq_zero h0, Nt.val_nil] at hyv; omega
    · exact h0
  have hy0 : ((ys.length : Int) == 0) = false := by simp; intro e; subst e; simp at hyp
  have aa : Arg w' (.slice ao xs.length ca) n ka := ⟨xs, ⟨ao, ca, rfl, hxl, hxm, hxc⟩, hx.1, hxv, hxk⟩
  have ab : Arg w' (.slice bo ys.length cb) m kb := ⟨ys, ⟨bo, cb, rfl, hyl, hym, hyc⟩, hy.1, hyv, hyk⟩
  have HXv := hide hxv
  have HYv := hide hyv
  clear ha hb hxv hyv
  go_wp2_with fail
  refine (cmp_any aa ab (by omega) (by omega)).mono ?_
  rintro e w1 ⟨rfl, hb1⟩
  by_cases hlt : n < m
  · have hs : sgn n m < 0 := by unfold sgn; rw [if_pos hlt]; omega
    go_wp2_with fail
    refine (norm_any (aa.below hb1) (by omega)).mono ?_
    rintro e w2 ⟨v, rfl, hn, hb2⟩
    have hb12 := below_trans hb1 hb2
    have e1 : n / m = 0 := Int.ediv_eq_zero_of_lt hn0 hlt
    have e2 : n % m = n := Int.emod_eq_of_lt hn0 hlt
    have hnum : Num w'.heap.size w2 v (n % m) kb := by rw [e2]; exact (hn.low hb1.size).tight (by have h := Hr.out; rw [e2] at h; exact h)
    have hnil : Num w'.heap.size w2 (.slice none 0 0) (n / m) ka := by
      rw [e1]
      exact ⟨[], ⟨none, rfl, by unfold maxLen; simp, fun h => absurd h (by simp)⟩, Nt.canon_nil, rfl, by simp⟩
    have HN := hide hnum
    have HZ := hide hnil
    clear hn hnum hnil e1 e2
    go_wp2
    go_ret3
    exact ⟨_, _, rfl, HZ.out, HN.out, sep_none _ _, hb12⟩
  · have hs : ¬ sgn n m < 0 := by unfold sgn; rw [if_neg hlt]; split <;> omega
    have hs2 : decide (sgn n m < 0) = false := decide_eq_false hs
    by_cases h1 : ys.length = 1
    · obtain ⟨b1, o1, rfl, _, hc⟩ := (hyc.below hb1) (by omega)
      have g0 := hc 0 (by omega)
      rw [Nat.add_zero] at g0
      have hv1 : Nt.lb ys 0 = m := by
        have h := HYv.out
        unfold Nt.val at h
        rw [h1] at h
        simpa [Nt.vt, Nt.pw] using h
      have bm := hy.1 0
      rw [hv1] at g0 bm
      have hq := (small_yes (aa.below hb1) (by omega) hm0 bm.2)
      have r0 : 0 ≤ n % m := Int.emod_nonneg _ (by omega)
      have r1 : n % m < m := Int.emod_lt_of_pos _ hm0
      clear hc
      go_wp2_with fail
      refine hq.mono ?_
      clear hq
      rintro e w2 ⟨v, rfl, hn, hb2⟩
      go_wp2_with fail
      refine (from_any (n % m) r0 (by omega)).mono ?_
      rintro e w3 ⟨v2, rfl, hn2, hb3⟩
      have hq1 : Num w'.heap.size w3 v (n / m) ka := (hn.below hb3).low hb1.size
      have hr1 : Num w'.heap.size w3 v2 (n % m) kb := (hn2.low (Nat.le_trans hb1.size hb2.size)).tight Hr.out
      have hbb := below_trans (below_trans hb1 hb2) hb3
      have HN := hide hr1
      have HZ := hide hq1
      have HSp := hide (sep_of hn hn2 (Nat.le_refl _))
      clear hn hn2 hq1 hr1
      go_wp2
      go_ret3
      exact ⟨_, _, rfl, HZ.out, HN.out, HSp.out, hbb⟩
    · obtain ⟨l, hl⟩ : ∃ l, ys.length = l + 2 := ⟨ys.length - 2, by omega⟩
      have hxy : ys.length ≤ xs.length := by
        rcases Nat.lt_or_ge xs.length ys.length with h | h
        · have := Nt.canon_lt hx.1 hy h; rw [HXv.out, HYv.out] at this; omega
        · exact h
      obtain ⟨nq, hnq⟩ : ∃ nq, xs.length + 1 = nq + ys.length := ⟨xs.length + 1 - ys.length, by omega⟩
      obtain ⟨b1, o1, rfl⟩ : ∃ b o, bo = some ⟨b, o, none⟩ := by
        obtain ⟨b, o, h, _⟩ := hyc hyp
        exact ⟨b, o, h⟩
      obtain ⟨b2, o2, hb2e, _, hc⟩ := (hyc.below hb1) hyp
      injection hb2e with hb2e
      injection hb2e with hb2e ho2e
      subst hb2e ho2e
      have g0 := hc (l + 1) (by omega)
      obtain ⟨l1, hl1⟩ : ∃ l1, l1 = l + 1 := ⟨_, rfl⟩
      rw [← hl1] at g0
      have q1 : (ys.length : Int) - 1 = (l1 : Int) := by omega
      have q2 : (l1 : Int) < (ys.length : Int) := by omega
      have q3 : ((ys.length : Int) == 1) = false := by simp; intro h; exact h1 (by omega)
      have bt := hy.1 l1
      have htop : Nt.lb ys l1 ≠ 0 := by
        have h := hy.2 (by intro e; subst e; simp at hyp)
        rw [show ys.length - 1 = l1 by omega] at h
        exact h
      have Htop := hide htop
      have Hl1 := hide hl1
      have Hl := hide hl
      have Hnq := hide hnq
      clear hc htop hl1 hl hnq
      go_wp2_with fail
      refine (leadz_any (Nt.lb ys l1) w1 bt.1 bt.2).mono ?_
      rintro e w2 ⟨k, rfl, hk, hk32, rfl⟩
      have hk0 : 0 < k := by
        rcases Nat.eq_zero_or_pos k with h | h
        · subst h
          have h2 := hk.1
          have h3 := Htop.out
          simp only [p2] at h2
          omega
        · exact h
      have hfits := raised_fits hy hyp (by rw [show ys.length - 1 = l1 by have := Hl.out; have := Hl1.out; omega]; exact hk) hk32
      obtain ⟨u, hu⟩ : ∃ u, u = 32 - k := ⟨_, rfl⟩
      rw [← hu] at hfits
      have HFits := hide hfits
      have Hk := hide hk
      have hu32 : u < 32 := by omega
      have hP := p2_pos u
      rw [← hu]
      clear hfits hk hu hk32 hk0
      go_wp2_with fail
      refine (raised_any (n := u) (ca := ca) (hxc.below hb1) hx.1 (by omega) hu32).mono ?_
      rintro e w3 ⟨g1, zs1, rfl, hg1, hr1, ho1, hzl1, hzv1, hb3⟩
      go_wp2_with fail
      refine (raised_any (n := u) (ca := cb) ((hyc.below hb1).below hb3) hy.1 (by omega) hu32).mono ?_
      rintro e w4 ⟨g2, vs0, rfl, hg2, hr2, ho2, hvl, hvv, hb4⟩
      have hzl : zs1.length = nq + ys.length := by rw [hzl1]; exact Hnq.out
      have hr1b := hr1.keeps hb4
      have hg12 : g2 ≠ g1 := by have := hr1.lt; omega
      have hvall : Nt.vt vs0 ys.length = Nt.val vs0 := Nt.vt_all ho2 (by omega) (by rw [hvv]; exact HFits.out)
      have hvt : Nt.val (vs0.take ys.length) = m * p2 u := by rw [Nt.val_take (by omega), hvall, hvv, HYv.out]
      have hvtl : (vs0.take ys.length).length = ys.length := by rw [List.length_take]; omega
      have hm1 : Nt.pw l1 ≤ m := by
        have h := Nt.canon_low hy (by intro e; subst e; simp at hyp)
        rw [HYv.out, show ys.length - 1 = l1 by have := Hl.out; have := Hl1.out; omega] at h
        exact h
      have hmP : m * 1 ≤ m * p2 u := Int.mul_le_mul_of_nonneg_left (by omega) (by omega)
      have hfirst : 0 < Nt.lb (vs0.take ys.length) (l + 1) := by
        rcases Int.lt_or_le 0 (Nt.lb (vs0.take ys.length) (l + 1)) with h | h
        · exact h
        · exfalso
          have h2 := (Nt.ok_take ho2 ys.length (l + 1)).1
          have h3 : Nt.lb (vs0.take ys.length) (l + 1) = 0 := by omega
          have h4 : Nt.val (vs0.take ys.length) = Nt.vt (vs0.take ys.length) (l + 1) := by
            have h6 := Nt.vt_succ (vs0.take ys.length) (l + 1)
            rw [h3, Int.zero_mul, Int.add_zero] at h6
            unfold Nt.val
            rw [hvtl, ← h6]
            exact congrArg _ Hl.out
          have h5 := (Nt.vt_bounds (Nt.ok_take ho2 ys.length) (l + 1)).2
          rw [← h4, hvt, ← Hl1.out] at h5
          omega
      have hzless : Nt.val zs1 < Nt.val (vs0.take ys.length) * Nt.pw nq := by
        rw [hzv1, hvt, HXv.out]
        have h1 : n < m * Nt.pw nq := by
          have h2 := aa.lt
          have h3 := Nt.val_lt hx.1
          rw [HXv.out, show xs.length = l1 + nq by have := Hl.out; have := Hl1.out; have := Hnq.out; omega, Nt.pw_add] at h3
          have h4 : Nt.pw l1 * Nt.pw nq ≤ m * Nt.pw nq := Int.mul_le_mul_of_nonneg_right hm1 (by have := Nt.pw_pos nq; omega)
          omega
        have h5 := Int.mul_lt_mul_of_pos_right h1 hP
        grind
      have hlong := long_any (w := w4) (vb := g2) (vo := 0) (bc := ys.length + 1) (g := g1) (nq := nq) (L := ys.length) (l := l) hr1b ho1 hzl hvtl Hl.out (by have := Hnq.out; omega) (row_cells_take hr2 (by omega)) (Nt.ok_take ho2 _) hg12 hfirst hzless
      rw [← Hnq.out] at hlong
      have HZ1 := hide hzv1
      have HVt := hide hvt
      have i5 : ys.length ≤ ys.length + 1 := by omega
      clear hvall hvv hvt hvtl hm1 hmP hfirst hzless hzv1 hzl1 hr1
      go_wp2_with fail
      with_reducible refine hlong.mono ?_
      clear hlong
      rintro e w5 ⟨gq, qs, zs2, rfl, hgq, hrq, hql, hqo, hrz, hzl2, hzo2, hval, hless, hon⟩
      have hR0 := Nt.val_nonneg hzo2
      obtain ⟨e1, e2, e3⟩ := div_parts (n := n) (m := m) (P := p2 u) (Q := Nt.val qs) (R := Nt.val zs2) hP hR0 (by rw [← HVt.out]; exact hless) (by rw [← HXv.out, ← HZ1.out, hval, HVt.out]) hm0
      have hb5 : Below w'.heap.size w' w5 := (below_trans (below_trans hb1 hb3) hb4).trans (hon.below (by have := hb1.size; omega) (by have := hb1.size; have := hb3.size; have := hb4.size; omega))
      have hArz : Arg w5 (.slice (some ⟨g1, 0, none⟩) (xs.length + 1) (xs.length + 1)) (Nt.val zs2) (xs.length + 1) := by
        have hzn : zs2.length = xs.length + 1 := by rw [hzl2, hzl]; exact Hnq.out.symm
        refine ⟨zs2, ⟨some ⟨g1, 0, none⟩, _, by rw [hzn], by rw [hzn]; exact Nat.le_refl _, by unfold maxLen; omega, fun _ => ⟨g1, 0, rfl, hrz.lt, fun i hi => by rw [Nat.zero_add]; exact hrz.cell hi⟩⟩, hzo2, rfl, by rw [hzn]; exact Nat.le_refl _⟩
      have hArq : Arg w5 (.slice (some ⟨gq, 0, none⟩) nq nq) (n / m) nq := by
        refine ⟨qs, ⟨some ⟨gq, 0, none⟩, _, by rw [hql], by rw [hql]; exact Nat.le_refl _, by have := Hnq.out; unfold maxLen; omega, fun _ => ⟨gq, 0, rfl, hrq.lt, fun i hi => by rw [Nat.zero_add]; exact hrq.cell hi⟩⟩, hqo, e1, by rw [hql]; exact Nat.le_refl _⟩
      have E2 := hide e2
      have Hzl := hide hzl
      clear e1 e2 e3 hval hless hql hzl2 hon hzl
      go_wp2_with fail
      with_reducible refine (shr_some hArz (by omega) hu32).mono ?_
      rintro e w6 ⟨v6, b6, rfl, hn6, hb6⟩
      go_wp2_with fail
      with_reducible refine (norm_any (hArq.below hb6) (by have := Hnq.out; omega)).mono ?_
      rintro e w7 ⟨v7, rfl, hn7, hb7⟩
      have hq1 : Num w'.heap.size w7 v7 (n / m) ka := (hn7.low (Nat.le_trans hb5.size hb6.size)).tight Hq.out
      have hr1 : Num w'.heap.size w7 v6 (n % m) kb := by
        have h := (hn6.below hb7).low hb5.size
        rw [E2.out] at h
        exact h.tight Hr.out
      have hbb := below_trans (below_trans hb5 hb6) hb7
      have HN := hide hr1
      have HZ := hide hq1
      have HSp := hide (sep_of hn6 hn7 (Nat.le_refl _)).symm
      clear hn6 hn7 hq1 hr1
      go_wp2
      go_ret3
      exact ⟨_, _, rfl, HZ.out, HN.out, HSp.out, hbb⟩

end Go.Proofs.YtllddhiflnfhaaaGreatDoor

namespace Go.Proofs.YtllddhiflnfhaaaGreatDoor
open Go.RowKit

/-- every list of limbs stays as it is -/
def Rws (w w' : World) : Prop := ∀ k zs, Row .u32 50 w k zs → Row .u32 50 w' k zs
theorem Rws.refl (w : World) : Rws w w := fun _ _ h => h
theorem Rws.trans {a b c : World} (h : Rws a b) (k : Rws b c) : Rws a c := fun _ _ r => k _ _ (h _ _ r)
theorem Rws.below {w w' : World} (h : Below w.heap.size w w') : Rws w w' := fun _ _ r => r.keeps h
theorem Rws.off {base g : Nat} {lv : Value} {ps : List (Value × Value)} {w w' : World} (h : Off g lv w w') (hk : Kept base w g lv ps) : Rws w w' := fun _ _ r => h.row hk r
theorem Rws.lies {w w' : World} (h : Rws w w') {v : Value} {xs : List Int} {c : Nat} (hl : Lies w v xs c) : Lies w' v xs c := by
  obtain ⟨ao, e, h1, h2, h3⟩ := hl
  refine ⟨ao, e, h1, h2, fun hc => ?_⟩
  obtain ⟨g, rest, e1, hr, h4⟩ := h3 hc
  exact ⟨g, rest, e1, h _ _ hr, h4⟩
theorem Rws.twin {w w' : World} (h : Rws w w') {B : Nat} {v : Value} {xs : List Int} (ht : Twin B w v xs) : Twin B w' v xs := by
  obtain ⟨g, h1, h2, h3, h4⟩ := ht
  exact ⟨g, h1, h2, h3, h _ _ h4⟩
theorem Rws.made {w w' : World} (h : Rws w w') {B : Nat} {v : Value} {zs : List Int} (hm : Made .u32 50 B w v zs) : Made .u32 50 B w' v zs := by
  obtain ⟨ao, rfl, h2, h3⟩ := hm
  refine ⟨ao, rfl, h2, fun hp => ?_⟩
  obtain ⟨g, rest, e1, hB, hr⟩ := h3 hp
  exact ⟨g, rest, e1, hB, h _ _ hr⟩
theorem Rws.num {w w' : World} (h : Rws w w') {B : Nat} {v : Value} {n : Int} {k : Nat} (hn : Num B w v n k) : Num B w' v n k := by
  obtain ⟨zs, h1, h2⟩ := hn
  exact ⟨zs, h.made h1, h2⟩
theorem Rws.mem {w w' : World} (h : Rws w w') {base : Nat} {all : List Value} (hm : Mem base w all) : Mem base w' all :=
  ⟨fun v hv => by obtain ⟨xs, c, h1, h2⟩ := hm.each v hv; exact ⟨xs, c, h.lies h1, h2⟩, hm.far, hm.above⟩
theorem Lies.arg {w : World} {v : Value} {xs : List Int} {c k : Nat} (h : Lies w v xs c) (ho : Nt.Ok xs) (hk : xs.length ≤ k) : Arg w v (Nt.val xs) k := ⟨xs, h.reads, ho, rfl, hk⟩
theorem Reads.argk {w : World} {v : Value} {xs : List Int} {k : Nat} (h : Reads .u32 w v xs) (ho : Nt.Ok xs) (hk : xs.length ≤ k) : Arg w v (Nt.val xs) k := ⟨xs, h, ho, rfl, hk⟩

theorem blk_form {v : Value} {k : Nat} (h : blk v = some k) : ∃ a n c, v = .slice (some a) n (c + 1) ∧ a.block = k := by
  unfold blk at h
  split at h
  · exact ⟨_, _, _, rfl, Option.some.inj h⟩
  · cases h
theorem Sep.far {q r : Value} (h : Sep q r) : Far q r := by
  intro k hq hr
  obtain ⟨a, n, c, e, e1⟩ := blk_form hq
  obtain ⟨a', n', c', e', e1'⟩ := blk_form hr
  exact h _ _ _ _ _ _ e e' (e1.trans e1'.symm)

theorem Mem.perm {base : Nat} {w : World} {l l' : List Value} (h : Mem base w l) (hp : l.Perm l') : Mem base w l' :=
  ⟨fun v hv => h.each v (hp.mem_iff.2 hv), (hp.pairwise_iff Far.symm).1 h.far, fun v hv => h.above v (hp.mem_iff.2 hv)⟩
/-- two new answers, in unlike memory -/
theorem Mem.snoc2 {base : Nat} {w w' : World} {all : List Value} {q r : Value} {n m : Int} {k k' : Nat} (h : Mem base w all) (hb : Below w.heap.size w w') (hq : Num w.heap.size w' q n k) (hr : Num w.heap.size w' r m k') (hs : Sep q r) (hk : k ≤ 4000000) (hk' : k' ≤ 4000000) (hB : base ≤ w.heap.size) : Mem base w' (all ++ [q] ++ [r]) := by
  have h1 := h.snoc hb hq hk hB
  have h2 := h.snoc hb hr hk' hB
  refine ⟨fun u hu => ?_, List.pairwise_append.2 ⟨h1.far, by simp, fun u hu v' hv' => ?_⟩, fun u hu j hj => ?_⟩
  · rcases List.mem_append.1 hu with hu | hu
    · exact h1.each u hu
    · exact h2.each u (List.mem_append.2 (.inr hu))
  · rcases List.mem_append.1 hu with hu | hu
    · exact (List.pairwise_append.1 h2.far).2.2 u hu v' hv'
    · rw [List.mem_singleton.1 hv', List.mem_singleton.1 hu]
      exact hs.far
  · rcases List.mem_append.1 hu with hu | hu
    · exact h1.above u hu j hj
    · exact h2.above u (List.mem_append.2 (.inr hu)) j hj
theorem Mem.one {base : Nat} {w : World} {v : Value} {xs : List Int} {c : Nat} (h : Lies w v xs c) (hl : xs.length ≤ 4000000) (hb : ∀ k, blk v = some k → base ≤ k) : Mem base w [v] :=
  ⟨fun u hu => by rw [List.mem_singleton.1 hu]; exact ⟨xs, c, h, hl⟩, by simp, fun u hu => by rw [List.mem_singleton.1 hu]; exact hb⟩
/-- nothing said is no answer in memory -/
theorem Mem.nils {base : Nat} {w : World} {all : List Value} (h : Mem base w all) : Mem base w (all ++ [.slice none 0 0] ++ [.slice none 0 0]) := by
  have hf : ∀ u : Value, Far u (.slice none 0 0) := fun u k _ hk => by rw [blk_none] at hk; cases hk
  have hl : ∃ xs c, Lies w (.slice none 0 0) xs c ∧ xs.length ≤ 4000000 := ⟨[], 0, ⟨none, rfl, Nat.le_refl _, by unfold maxLen; omega, fun h => absurd h (by omega)⟩, by simp⟩
  refine ⟨fun u hu => ?_, ?_, fun u hu j hj => ?_⟩
  · simp only [List.append_assoc, List.mem_append, List.mem_cons, List.not_mem_nil, or_false] at hu
    rcases hu with hu | hu | hu
    · exact h.each u hu
    · rw [hu]; exact hl
    · rw [hu]; exact hl
  · refine List.pairwise_append.2 ⟨List.pairwise_append.2 ⟨h.far, by simp, fun u _ v hv => ?_⟩, by simp, fun u _ v hv => ?_⟩
    · rw [List.mem_singleton.1 hv]; exact hf u
    · rw [List.mem_singleton.1 hv]; exact hf u
  · simp only [List.append_assoc, List.mem_append, List.mem_cons, List.not_mem_nil, or_false] at hu
    rcases hu with hu | hu | hu
    · exact h.above u hu j hj
    · rw [hu, blk_none] at hj; cases hj
    · rw [hu, blk_none] at hj; cases hj

/-- one list's memory is written over -/
theorem Mem.wrote {base g : Nat} {w w' : World} {all : List Value} {os zs : List Int} (h : Mem base w all) (ho : Only g w w') (hr : Row .u32 50 w g os) (hr' : Row .u32 50 w' g zs) (hl : zs.length = os.length) : Mem base w' all := by
  refine ⟨fun v hv => ?_, h.far, h.above⟩
  obtain ⟨xs, c, h1, h2⟩ := h.each v hv
  by_cases hg : blk v = some g
  · obtain ⟨e, rest, hrow, hc⟩ := h1.own hg
    have hc2 := h1
    obtain ⟨_, _, h3, h4, _⟩ := hc2
    have hlen : (xs ++ rest).length = os.length := by
      unfold Row at hrow hr
      rw [hr] at hrow
      injection hrow with e1
      injection e1 with e1
      have e2 := congrArg Array.size e1
      simpa using e2.symm
    have hx : xs.length ≤ zs.length := by rw [hl, ← hlen]; simp
    refine ⟨zs.take xs.length, c, ⟨_, by rw [e, List.length_take, Nat.min_eq_left hx], by rw [List.length_take, Nat.min_eq_left hx]; exact h3, h4, fun _ => ⟨g, zs.drop xs.length, rfl, by rw [List.take_append_drop]; exact hr', by rw [List.take_append_drop, hl, ← hlen]; exact hc⟩⟩, by rw [List.length_take, Nat.min_eq_left hx]; exact h2⟩
  · refine ⟨xs, c, h1.keep fun k hk => ?_, h2⟩
    exact ho.block k (h1.lt hk) (fun e => hg (by rw [← e]; exact hk))
theorem Only.grownBy {g : Nat} {w w' : World} (h : Only g w w') : w.grownBy w' (some g) :=
  ⟨h.os, h.tape, h.output, h.size, fun k hk hn => h.block k hk (fun e => hn (by rw [e]))⟩

end Go.Proofs.YtllddhiflnfhaaaGreatDoor

namespace Go.Proofs.YtllddhiflnfhaaaGreatDoor
open Go.RowKit

theorem ok_nil : Nt.Ok [] := fun i => by unfold Nt.lb; simp
theorem ok_app {xs : List Int} {z : Int} (h : Nt.Ok xs) (hz : 0 ≤ z ∧ z < 4294967296) : Nt.Ok (xs ++ [z]) := by
  intro i
  rcases Nat.lt_or_ge i xs.length with hi | hi
  · rw [lb_append_left hi]; exact h i
  · unfold Nt.lb
    rw [List.getD_eq_getElem?_getD, List.getElem?_append_right hi]
    cases hk : i - xs.length with
    | zero => simpa using hz
    | succ k => simp
theorem lies_nil (w : World) : Lies w (.slice none 0 0) [] 0 := ⟨none, rfl, Nat.le_refl _, by unfold maxLen; omega, fun h => absurd h (by omega)⟩
theorem lies_over {w : World} {g n : Nat} {zs : List Int} (h : Row .u32 50 w g zs) (hl : zs.length = n + 1) (hm : n + 1 ≤ maxLen) : Lies w (.slice (some ⟨g, 0, none⟩) n (n + 1)) (zs.take n) (n + 1) := by
  have e : (zs.take n).length = n := by rw [List.length_take]; omega
  exact ⟨_, by rw [e], by rw [e]; omega, hm, fun _ => ⟨g, zs.drop n, rfl, by rw [List.take_append_drop]; exact h, by rw [List.take_append_drop]; omega⟩⟩
theorem only_lies {g : Nat} {w w' : World} (h : Only g w w') {v : Value} {xs : List Int} {c : Nat} (hl : Lies w v xs c) (hn : ¬ blk v = some g) : Lies w' v xs c :=
  hl.keep fun k hk => h.block k (hl.lt hk) (fun e => hn (by rw [← e]; exact hk))

set_option maxRecDepth 20000 in
set_option maxHeartbeats 4000000 in
theorem over_any {wa w : World} {g n : Nat} {old ys : List Int} {bv : Value} (hr : Row .u32 50 w g old) (ho : Nt.Ok old) (hl : old.length = n + 1) (hn : n ≤ 1048576) (hb : Reads .u32 wa bv ys) (oy : Nt.Ok ys) (hw : Below wa.heap.size wa w) (hg : wa.heap.size ≤ g) :
    Calls Tryz.prog 8 #[.slice (some ⟨g, 0, none⟩) n (n + 1), bv] w fun e w' => e = .returned (.tuple #[]) ∧ ∃ zs, zs.length = n + 1 ∧ Nt.Ok zs ∧ Row .u32 50 w' g zs ∧ Only g w w' := by
  obtain ⟨bo, cb, rfl, hyl, hym, hyc⟩ := hb
  unfold maxLen at hym
  go_enter Tryz.func8, Tryz.ntmps8
  go_wp2
  go_loopw [4] (fun si wr => ∃ (k : Nat) (zs : List Int), k ≤ n ∧ si = .int .i64 k ∧ zs.length = n + 1 ∧ Nt.Ok zs ∧ Row .u32 50 wr g zs ∧ Only g w wr ∧ Below wa.heap.size wa wr) (fun si _ => n - (intOf si).toNat)
  case atStart => exact ⟨0, old, by omega, rfl, hl, ho, hr, Only.refl _ _, hw⟩
  case round =>
    obtain ⟨k, zs, hk, rfl, hzl, hzo, hrow, hon, hbr⟩ := hrel
    clear hr ho hl hw
    have Hzl := hide hzl
    clear hzl
    by_cases hkl : k < n
    · by_cases hy0 : 0 < ys.length
      · obtain ⟨b, off, rfl, hbl, hc⟩ := (hyc.below hbr) hy0
        obtain ⟨j, hj⟩ : ∃ j, j = k % ys.length := ⟨_, rfl⟩
        have hjl : j < ys.length := by rw [hj]; exact Nat.mod_lt _ hy0
        have hjk : (k : Int) % (ys.length : Int) = (j : Int) := by rw [hj]; simp
        have g1 := hc j hjl
        have g2 := hrow.cell (i := k) (by have := Hzl.out; omega)
        have hfz := hrow.frozen k
        have y0 : ¬ (ys.length : Int) = 0 := by omega
        have y1 : (0 : Int) < (ys.length : Int) := by omega
        have j1 : (j : Int) < (ys.length : Int) := by omega
        clear hc hyc hj
        go_wp2
        go_roundw
        case rel => exact ⟨k + 1, zs.set k (Nt.lb ys j), by omega, by go_num, by rw [List.length_set, Hzl.out], Nt.ok_set hzo (oy j), hrow.set _ _, hon.set _ _, hbr.setCell (p := ⟨g, k, none⟩) hg _⟩
        case measure => simp [intOf]; omega
      · have hye : ys.length = 0 := by omega
        have HZ : Hid (zs.length = n + 1 ∧ Nt.Ok zs ∧ Row .u32 50 wr g zs ∧ Only g w wr) := hide ⟨Hzl.out, hzo, hrow, hon⟩
        clear hzo hrow hon hyc
        go_wp2
        go_end0
        exact ⟨rfl, zs, HZ.out⟩
    · have HZ : Hid (zs.length = n + 1 ∧ Nt.Ok zs ∧ Row .u32 50 wr g zs ∧ Only g w wr) := hide ⟨Hzl.out, hzo, hrow, hon⟩
      clear hzo hrow hon hyc
      go_wp2
      go_end0
      exact ⟨rfl, zs, HZ.out⟩

end Go.Proofs.YtllddhiflnfhaaaGreatDoor

namespace Go.Proofs.YtllddhiflnfhaaaGreatDoor
open Go.RowKit
set_option linter.unusedVariables false

theorem Num.grown8 {B : Nat} {w w' : World} {v : Value} {n : Int} {k : Nat} {r : Option Nat} (h : Num B w v n k) (hg : w.grownBy w' r) (hr : ∀ b, r = some b → ∃ cs, w.heap[b]? = some (.cells cs 5 (0, 0))) : Num B w' v n k := by
  obtain ⟨zs, ⟨ao, rfl, h2, h3⟩, h4⟩ := h
  refine ⟨zs, ⟨ao, rfl, h2, fun hp => ?_⟩, h4⟩
  obtain ⟨g, rest, e, hB, hrow⟩ := h3 hp
  refine ⟨g, rest, e, hB, ?_⟩
  obtain ⟨_, _, _, _, hk⟩ := hg
  unfold Row
  rw [hk g hrow.lt ?_]
  · exact hrow
  · intro e
    obtain ⟨cs, hc⟩ := hr g e.symm
    unfold Row at hrow
    rw [hrow] at hc
    injection hc with hc
    injection hc with _ h5
    exact absurd h5 (by decide)
theorem owns_u8 {w : World} {base : Nat} {v : Value} {n : Nat} {xs : List Value} (h : w.ownsRow base 5 1 v n xs) : ∀ b, v.ownBlock = some b → ∃ cs, w.heap[b]? = some (.cells cs 5 (0, 0)) := by
  intro b hb
  rcases h.2 with ⟨rfl, _⟩ | ⟨g, cap, cur, rfl, _, h1, _⟩
  · cases hb
  · cases hb
    exact ⟨_, h1⟩
theorem cell_1 (w : World) (E : TypeId) (k : IntKind) (x : Int) : Cells k (w.alloc (.cells #[.int k x] E)) (some ⟨w.heap.size, 0, none⟩) [x] := by
  intro _
  refine ⟨w.heap.size, 0, rfl, by simp, fun i hi => ?_⟩
  have hi0 : i = 0 := by simpa using hi
  subst hi0
  rw [World.cell?_alloc_at _ _ _ _ (by simp)]
  rfl
theorem own_str {w : World} {v : Value} {zs : List Int} (h : Reads .u8 w v zs) (hn : 0 < zs.length) : (convert 52 9 v).run Tryz.prog w = .ok (.string (strOfNums zs)) w := by
  obtain ⟨ao, cap, rfl, h2, h3, h4⟩ := h
  obtain ⟨b, off, rfl, _, e3⟩ := h4 hn
  refine run_convert_bytes_arg w 52 5 Tryz.underlying52 Tryz.underlying5 b off zs.length cap zs rfl ?_ 9 Tryz.underlying9
  intro i hi
  rw [e3 i hi]; simp [Nt.lb]
/-- a store into a row of one's own -/
theorem owns_put {w : World} {base : Nat} {e : TypeId} {kd : IntKind} {g n cap : Nat} {xs : List Int} (h : w.ownsRow base e 1 (.slice (some ⟨g, 0, none⟩) n cap) n (xs.map (Value.int kd))) {i : Nat} (hi : i < n) (x : Int) :
    (w.setCell ⟨g, i, none⟩ (.int kd x)).ownsRow base e 1 (.slice (some ⟨g, 0, none⟩) n cap) n ((xs.set i x).map (Value.int kd)) := by
  obtain ⟨h1, h2⟩ := h
  rcases h2 with ⟨h2, _⟩ | ⟨g', cap', cur, he, hb, hg, hnc, hcm, hcs, ht⟩
  · cases h2
  cases he
  refine ⟨by simpa using h1, .inr ⟨g, cap, cur.setIfInBounds i (.int kd x), rfl, hb, ?_, hnc, hcm, by simpa using hcs, ?_⟩⟩
  · rw [heap_setCell_same w g i _ _ _ hg]
  · rw [List.map_set, ← ht]
    simp [List.take_set]
theorem owns_get {w : World} {base : Nat} {e : TypeId} {kd : IntKind} {g n cap : Nat} {xs : List Int} (h : w.ownsRow base e 1 (.slice (some ⟨g, 0, none⟩) n cap) n (xs.map (Value.int kd))) {i : Nat} (hi : i < n) :
    w.cell? ⟨g, i, none⟩ = some (.int kd (Nt.lb xs i)) ∧ w.frozen? ⟨g, i, none⟩ = false ∧ base ≤ g := by
  obtain ⟨h1, h2⟩ := h
  have hl : xs.length = n := by simpa using h1
  rcases h2 with ⟨h2, _⟩ | ⟨g', cap', cur, he, hb, hg, hnc, hcm, hcs, ht⟩
  · cases h2
  cases he
  refine ⟨?_, frozen_of_row w g i _ _ hg, hb⟩
  rw [cell_of_row w g i _ _ _ hg]
  have h3 : (cur.toList.take (n * 1))[i]? = some (.int kd (Nt.lb xs i)) := by
    rw [ht, List.getElem?_map, List.getElem?_eq_getElem (by omega)]
    simp [Nt.lb, hl, hi]
  rw [List.getElem?_take_of_lt (by omega)] at h3
  simpa using h3
theorem p2_tn (n : Nat) : p2 n ≤ tn n := by
  induction n with
  | zero => decide
  | succ n ih =>
    have := p2_pos n
    rw [tn_succ, p2]; omega
theorem dg_rev (bs : List Int) (d : Int) : dg (bs ++ [d]).reverse = (d - 48) * tn bs.length + dg bs.reverse := by
  rw [List.reverse_append, List.reverse_singleton, List.singleton_append, dg, List.length_reverse]
theorem lb_rev {xs : List Int} {i : Nat} (h : i < xs.length) : Nt.lb xs.reverse i = Nt.lb xs (xs.length - 1 - i) := by
  have h2 : xs.length - 1 - i < xs.length := by omega
  simp [Nt.lb, h, h2]
/-- the digits so far, the lowest first -/
structure Bck (V A : Int) (bs : List Int) : Prop where
  dg : Dg bs
  val : A * tn bs.length + Go.Proofs.YtllddhiflnfhaaaGreatDoor.dg bs.reverse = V
  top : A = 0 → 0 < bs.length ∧ Nt.lb bs (bs.length - 1) ≠ 48
theorem Bck.next {V A : Int} {bs : List Int} (h : Bck V A bs) (hA : 0 < A) : Bck V (A / 10) (bs ++ [48 + A % 10]) := by
  have m0 := Int.emod_nonneg A (b := 10) (by omega)
  have m1 := Int.emod_lt_of_pos A (b := 10) (by omega)
  refine ⟨h.dg.append (fun x hx => by simp at hx; omega), ?_, fun e => ⟨by simp, ?_⟩⟩
  · rw [List.length_append, dg_rev, show [48 + A % 10].length = 1 from rfl, tn_succ, ← h.val]
    generalize tn bs.length = T
    generalize Go.Proofs.YtllddhiflnfhaaaGreatDoor.dg bs.reverse = R
    have e : A * T = (A / 10 * 10 + A % 10) * T := by congr 1; omega
    rw [e, Int.add_mul, show 48 + A % 10 - 48 = A % 10 by omega, Int.mul_assoc]
    omega
  · rw [show (bs ++ [48 + A % 10]).length - 1 = bs.length by simp]
    have : Nt.lb (bs ++ [48 + A % 10]) bs.length = 48 + A % 10 := by simp [Nt.lb]
    rw [this]; omega
theorem Bck.len {V A : Int} {bs : List Int} (h : Bck V A bs) (hA : 0 < A) {k : Nat} (hV : V < Nt.pw k) : bs.length < 32 * k := by
  have h1 := p2_tn bs.length
  have h2 : 1 * tn bs.length ≤ A * tn bs.length := Int.mul_le_mul_of_nonneg_right (by omega) (Int.le_of_lt (tn_pos _))
  have h3 := (dg_range (xs := bs.reverse) (fun x hx => h.dg x (by simpa using hx))).1
  have h4 := h.val
  rcases Nat.lt_or_ge bs.length (32 * k) with c | c
  · exact c
  · have h5 := p2_mono c
    rw [p2_32] at h5
    omega

theorem rev_step {zs bs : List Int} {L i k : Nat} {a b : Int} (hzl : zs.length = L) (hk : k = L - 1 - i) (hik : i < k) (h1 : ∀ j, j < i → Nt.lb zs j = Nt.lb bs (L - 1 - j) ∧ Nt.lb zs (L - 1 - j) = Nt.lb bs j) (h2 : ∀ j, i ≤ j → j < L - i → Nt.lb zs j = Nt.lb bs j) (ha : Nt.lb zs i = a) (hb : Nt.lb zs k = b) :
    (∀ j, j < i + 1 → Nt.lb ((zs.set i b).set k a) j = Nt.lb bs (L - 1 - j) ∧ Nt.lb ((zs.set i b).set k a) (L - 1 - j) = Nt.lb bs j) ∧ (∀ j, i + 1 ≤ j → j < L - (i + 1) → Nt.lb ((zs.set i b).set k a) j = Nt.lb bs j) := by
  have kl : k < (zs.set i b).length := by rw [List.length_set]; omega
  have il : i < zs.length := by omega
  refine ⟨fun j hj => ?_, fun j c1 c2 => ?_⟩
  · rcases Nat.lt_or_ge j i with c | c
    · rw [Nt.lb_set_ne (by omega), Nt.lb_set_ne (by omega), Nt.lb_set_ne (by omega), Nt.lb_set_ne (by omega)]
      exact h1 j c
    · have e : j = i := by omega
      subst e
      rw [← hk, Nt.lb_set_eq kl, Nt.lb_set_ne (by omega), Nt.lb_set_eq il, ← ha, ← hb]
      exact ⟨h2 k (by omega) (by omega), h2 j (by omega) (by omega)⟩
  · rw [Nt.lb_set_ne (by omega), Nt.lb_set_ne (by omega)]
    exact h2 j (by omega) (by omega)
theorem rev_done {zs bs : List Int} {L M : Nat} (hzl : zs.length = L) (hbl : bs.length = L) (hM2 : 2 * M ≤ L) (hM3 : L ≤ 2 * M + 1) (h1 : ∀ j, j < M → Nt.lb zs j = Nt.lb bs (L - 1 - j) ∧ Nt.lb zs (L - 1 - j) = Nt.lb bs j) (h2 : ∀ j, M ≤ j → j < L - M → Nt.lb zs j = Nt.lb bs j) : zs = bs.reverse := by
  apply List.ext_getElem (by simp [hzl, hbl])
  intro j c1 c2
  have key : Nt.lb zs j = Nt.lb bs.reverse j := by
    rw [lb_rev (by omega), hbl]
    rcases Nat.lt_or_ge j M with c | c
    · exact (h1 j c).1
    · rcases Nat.lt_or_ge j (L - M) with d | d
      · rw [show L - 1 - j = j by omega]
        exact h2 j c d
      · have := (h1 (L - 1 - j) (by omega)).2
        rw [show L - 1 - (L - 1 - j) = j by omega] at this
        exact this
  rw [lb_get c1, lb_get c2] at key
  exact key

set_option maxRecDepth 20000 in
set_option maxHeartbeats 8000000 in
theorem rdigits_any {w : World} {va : Value} {V : Int} {kk : Nat} (ha : Arg w va V kk) (hkk : kk ≤ 1048576) :
    Calls Tryz.prog 6 #[va] w fun e w' => ∃ ds, e = .returned (.string (strOfNums ds)) ∧ Dstr V ds ∧ Below w.heap.size w w' := by
  go_enter Tryz.func6, Tryz.ntmps6
  go_wp2_with fail
  refine (rnorm_any ha (by omega)).mono ?_
  rintro e w0 ⟨v, rfl, hn, hb0⟩
  have hVlt := ha.lt
  have hV0 := ha.nonneg
  have HN0 := hide hn
  obtain ⟨xs, ⟨ao, rfl, -⟩, hc, hv, hxk⟩ := hn
  have HVl := hide (And.intro hV0 hVlt)
  clear ha hVlt hV0
  by_cases hz : V = 0
  · have hx0 : xs = [] := (Nt.canon_zero hc).1 (hv.trans hz)
    subst hx0
    have HD : Hid (Dstr V [48]) := hide ⟨fun x hx => by simp at hx; omega, by simp, .inr rfl, by rw [dg_one, hz]; omega⟩
    clear hc hv
    go_wp2
    go_ret
    exact ⟨[48], rfl, HD.out, hb0⟩
  · have hx0 : ¬ xs.length = 0 := by
      intro e
      have := List.eq_nil_of_length_eq_zero e
      subst this
      rw [Nt.val_nil] at hv; omega
    have hx1 : ((xs.length : Int) == 0) = false := by simp; intro e; subst e; simp at hx0
    have HB0 : Hid (Bck V V []) := hide ⟨fun x hx => (by cases hx), (by simp [Go.Proofs.YtllddhiflnfhaaaGreatDoor.dg, tn_zero]), fun e => absurd e hz⟩
    clear hc hv hx0
    go_wp2
    clear hx1
    go_loopg [0, 3] V.toNat (fun c sa out wr => ∃ (A : Int) (bs : List Int), c = A.toNat ∧ 0 ≤ A ∧ Num w.heap.size wr sa A kk ∧ Bck V A bs ∧ bs.length ≤ 33554432 ∧ wr.ownsRow w.heap.size 5 1 out bs.length (bs.map (Value.int .u8)) ∧ Below w.heap.size w wr)
    case atStart => exact ⟨V, [], rfl, HVl.out.1, HN0.out, HB0.out, by simp, World.ownsRow_nil _ _ _ _, hb0⟩
    case round =>
      clear HN0 HB0 hb0
      obtain ⟨A, bs, hgA, hA0, hna, hbk, hbl, hown, hbr⟩ := hrel
      have HBK := hide hbk
      have HNA := hide hna
      clear hbk
      obtain ⟨ys, ⟨yo, rfl, -⟩, yc, yv, -⟩ := hna
      by_cases hA : A = 0
      · have hy0 : ys = [] := (Nt.canon_zero yc).1 (yv.trans hA)
        subst hy0
        have hbp := (HBK.out.top hA).1
        obtain ⟨L, hL⟩ : ∃ L, bs.length = L := ⟨_, rfl⟩
        rw [hL] at hown hbl hbp
        obtain ⟨g, cap, hve⟩ : ∃ g cap, u3 = .slice (some ⟨g, 0, none⟩) L cap := by
          rcases hown.2 with ⟨_, h⟩ | ⟨g, cap, _, h, _⟩
          · omega
          · exact ⟨g, cap, h⟩
        subst hve
        have HL := hide hL
        obtain ⟨M, hM⟩ : ∃ M : Nat, M = L / 2 := ⟨_, rfl⟩
        have hM1 : (L : Int) / 2 = (M : Int) := by omega
        have hM2 : 2 * M ≤ L := by omega
        have hM3 : L ≤ 2 * M + 1 := by omega
        clear yc yv hL hM
        go_wp2
        go_loopg [7] M (fun c iv wr => ∃ (i : Nat) (zs : List Int), i ≤ M ∧ c = M - i ∧ iv = .int .i64 i ∧ zs.length = L ∧ (∀ j, j < i → Nt.lb zs j = Nt.lb bs (L - 1 - j) ∧ Nt.lb zs (L - 1 - j) = Nt.lb bs j) ∧ (∀ j, i ≤ j → j < L - i → Nt.lb zs j = Nt.lb bs j) ∧ wr.ownsRow w.heap.size 5 1 (.slice (some ⟨g, 0, none⟩) L cap) L (zs.map (Value.int .u8)) ∧ Below w.heap.size w wr)
        case atStart => exact ⟨0, bs, by omega, rfl, rfl, HL.out, fun j hj => absurd hj (by omega), fun _ _ _ => rfl, hown, hbr⟩
        case round =>
          clear hown hbr
          obtain ⟨i, zs, hi, hgi, rfl, hzl, hz1, hz2, hown, hbr⟩ := hrel
          have HZ := hide (And.intro hz1 hz2)
          clear hz1 hz2
          by_cases hiM : i < M
          · obtain ⟨k, hk⟩ : ∃ k : Nat, k = L - 1 - i := ⟨_, rfl⟩
            have hk1 : (L : Int) - 1 - (i : Int) = (k : Int) := by omega
            have hkL : k < L := by omega
            have hik : i < k := by omega
            have hiL : i < L := by omega
            obtain ⟨g1, f1, gb⟩ := owns_get hown hiL
            obtain ⟨g2, f2, _⟩ := owns_get hown hkL
            have hne : ¬ i = k := by omega
            have hne' : ¬ k = i := by omega
            have i1 : (i : Int) < (M : Int) := by omega
            have i2 : (i : Int) < (L : Int) := by omega
            have k2 : (k : Int) < (L : Int) := by omega
            have HK := hide hk
            obtain ⟨a, hae⟩ : ∃ a, Nt.lb zs i = a := ⟨_, rfl⟩
            obtain ⟨b, hbe⟩ : ∃ b, Nt.lb zs k = b := ⟨_, rfl⟩
            rw [hae] at g1
            rw [hbe] at g2
            have HAB := hide (And.intro hae hbe)
            have HO := hide (show ((wr.setCell ⟨g, i, none⟩ (.int .u8 b)).setCell ⟨g, k, none⟩ (.int .u8 a)).ownsRow w.heap.size 5 1 (.slice (some ⟨g, 0, none⟩) L cap) L (((zs.set i b).set k a).map (Value.int .u8)) from owns_put (owns_put hown hiL b) hkL a)
            have HO2 := hide (show ((wr.setCell ⟨g, k, none⟩ (.int .u8 a)).setCell ⟨g, i, none⟩ (.int .u8 b)).ownsRow w.heap.size 5 1 (.slice (some ⟨g, 0, none⟩) L cap) L (((zs.set k a).set i b).map (Value.int .u8)) from owns_put (owns_put hown hkL a) hiL b)
            have HW := hide (And.intro hbr gb)
            clear hk hown hae hbe hbr
            go_wp2
            go_region
            all_goals go_wp2
            all_goals go_roundg (M - (i + 1))
            all_goals first
              | omega
              | exact ⟨i + 1, (zs.set i b).set k a, by omega, rfl, by go_num, by simp [hzl], (rev_step hzl HK.out hik HZ.out.1 HZ.out.2 HAB.out.1 HAB.out.2).1, (rev_step hzl HK.out hik HZ.out.1 HZ.out.2 HAB.out.1 HAB.out.2).2, HO.out, ((HW.out.1.drew.setCell (p := ⟨g, i, none⟩) HW.out.2 _).setCell (p := ⟨g, k, none⟩) HW.out.2 _)⟩
          · have hie : i = M := by omega
            subst hie
            have hzs := rev_done hzl HL.out hM2 hM3 HZ.out.1 HZ.out.2
            have hcv := own_str (reads_of_owns hown) (by omega)
            have HD : Hid (Dstr V zs) := hide (by
              obtain ⟨b1, b2, b3⟩ := HBK.out
              rw [hA, Int.zero_mul, Int.zero_add] at b2
              refine ⟨by rw [hzs]; exact fun x hx => b1 x (by simpa using hx), by omega, .inl ?_, by rw [hzs]; exact b2⟩
              rw [hzs, lb_rev (by have := HL.out; omega), Nat.sub_zero]
              exact (b3 hA).2)
            have HW := hide hbr
            clear hzs hbr
            go_wp2
            go_ret
            exact ⟨zs, rfl, HD.out, HW.out⟩
      · have hyp : (0 : Int) < (ys.length : Int) := by
          rcases Nat.eq_zero_or_pos ys.length with h | h
          · rw [List.eq_nil_of_length_eq_zero h, Nt.val_nil] at yv; omega
          · omega
        have hA10 : 0 ≤ A / 10 := by omega
        have hme : (A / 10).toNat < gk := by omega
        have m0 := Int.emod_nonneg A (b := 10) (by omega)
        have m1 := Int.emod_lt_of_pos A (b := 10) (by omega)
        have hlen := HBK.out.len (by omega) HVl.out.2
        clear yc yv
        go_wp2_with fail
        with_reducible refine (rsmall_yes (d := 10) HNA.out.arg (by omega) (by omega) (by omega)).mono ?_
        rintro e w2 ⟨v2, rfl, hn2, hb2⟩
        obtain ⟨r, hr⟩ : ∃ r, A % 10 = r := ⟨_, rfl⟩
        rw [hr] at m0 m1 ⊢
        have hown2 := (owns_below hown hb2).alloc (.cells #[.int .u8 (48 + r)] 5)
        have hal := below_alloc w2 (.cells #[.int .u8 (48 + r)] 5)
        have HX := hide (And.intro ((hn2.low hbr.size).below hal) (below_trans (below_trans hbr hb2) hal))
        have hs2 : w.heap.size ≤ w2.heap.size := Nat.le_trans hbr.size hb2.size
        obtain ⟨_, ⟨po, rfl, -⟩, -⟩ := hn2
        clear hbr hb2 hown
        have e48 : (48 + r) % 256 = 48 + r := by omega
        go_wp2_with (at_builtin; refine wpList_append_cells _ rfl _ _ 52 rfl w.heap.size 5 .u8 1 Tryz.underlying52 Tryz.infoU8 _ bs.length bs rfl hown2 (some ⟨w2.heap.size, 0, none⟩) 1 [48 + r] rfl (cell_1 _ _ _ _) (by unfold maxLen; simp; omega) (by simp; omega) (by simp; omega) ?_)
        intro v' w3 hown3 hgr
        have HF := hide (And.intro (HX.out.1.grown8 hgr (owns_u8 hown2)) (own_grew HX.out.2 (by simp; omega) hown2 hgr))
        have HO3 := hide hown3
        have HBN := hide (HBK.out.next (by omega))
        rw [hr] at HBN
        clear hown3 hgr hown2
        go_wp2
        go_roundg (A / 10).toNat
        case measure => exact hme
        case rel => exact ⟨A / 10, bs ++ [48 + r], rfl, hA10, HF.out.1, HBN.out, by simp; omega, by simpa using HO3.out, HF.out.2⟩

end Go.Proofs.YtllddhiflnfhaaaGreatDoor

namespace Go.Proofs.YtllddhiflnfhaaaGreatDoor
open Go.RowKit
set_option linter.unusedVariables false

abbrev d1 (x : Int) : Obj := .cells #[.int .u32 x] 50
theorem bl1 (w : World) (o : Obj) : Below w.heap.size w (w.alloc o) := (Below.refl _ _).alloc (Nat.le_refl _) _
theorem bl1d (w : World) (o : Obj) : Below w.heap.size w (w.alloc o).drew := (bl1 w o).drew
theorem bl2 (w : World) (o o' : Obj) : Below w.heap.size w ((w.alloc o).alloc o') := below_trans (bl1 w o) (bl1 _ o')
theorem bl2d (w : World) (o o' : Obj) : Below w.heap.size w ((w.alloc o).alloc o').drew := (bl2 w o o').drew
theorem un_1 (w : World) (x : Int) (h0 : 0 ≤ x) (h1 : x < 4294967296) : Arg (w.alloc (d1 x)) (.slice (some ⟨w.heap.size, 0, none⟩) 1 1) x 1 := lit_arg w ⟨h0, h1⟩
theorem un_1d (w : World) (x : Int) (h0 : 0 ≤ x) (h1 : x < 4294967296) : Arg (w.alloc (d1 x)).drew (.slice (some ⟨w.heap.size, 0, none⟩) 1 1) x 1 := (un_1 w x h0 h1).below (Below.refl _ _).drew
theorem un_2 (w : World) (o : Obj) (x : Int) (h0 : 0 ≤ x) (h1 : x < 4294967296) : Arg ((w.alloc (d1 x)).alloc o) (.slice (some ⟨w.heap.size, 0, none⟩) 1 1) x 1 := (un_1 w x h0 h1).below (bl1 _ _)
theorem un_2d (w : World) (o : Obj) (x : Int) (h0 : 0 ≤ x) (h1 : x < 4294967296) : Arg ((w.alloc (d1 x)).alloc o).drew (.slice (some ⟨w.heap.size, 0, none⟩) 1 1) x 1 := (un_2 w o x h0 h1).below (Below.refl _ _).drew
theorem un_3 (w : World) (o : Obj) (x : Int) (h0 : 0 ≤ x) (h1 : x < 4294967296) : Arg ((w.alloc o).alloc (d1 x)) (.slice (some ⟨w.heap.size + 1, 0, none⟩) 1 1) x 1 := by
  have := un_1 (w.alloc o) x h0 h1
  rwa [show (w.alloc o).heap.size = w.heap.size + 1 by simp] at this
theorem un_3d (w : World) (o : Obj) (x : Int) (h0 : 0 ≤ x) (h1 : x < 4294967296) : Arg ((w.alloc o).alloc (d1 x)).drew (.slice (some ⟨w.heap.size + 1, 0, none⟩) 1 1) x 1 := (un_3 w o x h0 h1).below (Below.refl _ _).drew
theorem dg_take_le {es : List Int} (h : Dg es) (k : Nat) : 0 ≤ dg (es.take k) ∧ dg (es.take k) ≤ dg es := by
  have h1 := dg_append (es.take k) (es.drop k)
  rw [List.take_append_drop] at h1
  have h2 := (dg_range (h.take k)).1
  have h3 := (dg_range (h.drop k)).1
  have h4 := tn_pos (es.drop k).length
  have h5 : dg (es.take k) * 1 ≤ dg (es.take k) * tn (es.drop k).length := Int.mul_le_mul_of_nonneg_left (by omega) h2
  omega
theorem Rdv.no {es : List Int} {b : Bool} {n : Int} (h : Rdv es b n) (hn : ¬ (Nmb es ∧ dg es < Nt.pw 262144)) : b = false ∧ n = 0 := by
  cases b with
  | false => exact ⟨rfl, by rw [h.2, if_neg (by decide)]⟩
  | true => exact absurd (h.1.1 rfl) hn
theorem Rdv.yes {es : List Int} {b : Bool} {n : Int} (h : Rdv es b n) (hn : Nmb es ∧ dg es < Nt.pw 262144) : b = true ∧ n = dg es := by
  have hb := h.1.2 hn
  exact ⟨hb, by rw [h.2, if_pos hb]⟩
theorem num_form {B : Nat} {w : World} {v : Value} {n : Int} {k : Nat} (h : Num B w v n k) : ∃ a l, v = .slice a l l ∧ l ≤ k ∧ (l ≤ 262144 ↔ n < Nt.pw 262144) := by
  obtain ⟨zs, ⟨ao, h1, _⟩, h2, h3, h4⟩ := h
  refine ⟨ao, zs.length, h1, h4, ?_⟩
  rw [← h3]
  exact canon_short h2 262144

set_option maxRecDepth 100000 in
set_option maxHeartbeats 8000000 in
theorem rread_bad {w : World} {es : List Int} {s : ByteArray} {N : Nat} (hb : Byt es) (hs : s = strOfNums es) (hN : es.length = N) (h : N = 0 ∨ (1 < N ∧ Nt.lb es 0 = 48)) :
    Calls Tryz.prog 9 #[.string s] w fun e w' => e = .returned (.tuple #[.slice none 0 0, .bool false]) ∧ w' = w := by
  have hsz : s.size = N := by rw [hs, strOfNums_size, hN]
  rcases h with h | ⟨h, h0⟩
  · have hn0 : ((N : Int) == 0) = true := by simp [h]
    clear hs hN hb
    go_enter Tryz.func9, Tryz.ntmps9
    go_wp2
    go_ret2
    exact ⟨rfl, rfl⟩
  · have hp0 : 0 < s.size := by omega
    have hx0 : (((s[0]'hp0).toNat : Nat) : Int) = 48 := by
      subst hs
      rw [txt_at hp0 hb, h0]
    have hn0 : ((N : Int) == 0) = false := by simp; omega
    have hN1 : (1 : Int) < (N : Int) := by omega
    have hN0 : (0 : Int) < (N : Int) := by omega
    clear hs hN hb h0
    go_enter Tryz.func9, Tryz.ntmps9
    go_wp2
    go_ret2
    exact ⟨rfl, rfl⟩

set_option maxRecDepth 100000 in
set_option maxHeartbeats 8000000 in
theorem rread_any {w : World} {es : List Int} {s : ByteArray} {b : Bool} {n : Int} (hb : Byt es) (hs : s = strOfNums es) (hl : es.length ≤ 134217728) (h : Rdv es b n) :
    Calls Tryz.prog 9 #[.string s] w fun e w' => ∃ v, e = .returned (.tuple #[v, .bool b]) ∧ Num w.heap.size w' v n 262144 ∧ Below w.heap.size w w' := by
  obtain ⟨N, hN⟩ : ∃ N, es.length = N := ⟨_, rfl⟩
  have hsz : s.size = N := by rw [hs, strOfNums_size, hN]
  by_cases hbad : N = 0 ∨ (1 < N ∧ Nt.lb es 0 = 48)
  · obtain ⟨rfl, rfl⟩ := h.no (fun q => by
      rcases hbad with c | ⟨c, d⟩
      · have := q.1.1; omega
      · rcases q.1.2.2 with e | e
        · exact e d
        · rw [e] at hN; simp at hN; omega)
    refine (rread_bad hb hs hN hbad).mono ?_
    rintro e w' ⟨rfl, rfl⟩
    exact ⟨_, rfl, num_none _ _ _, Below.refl _ _⟩
  · have n0 : 0 < N := by omega
    have Hix := hide (show ∀ p (h : p < s.size), (((s[p]'h).toNat : Nat) : Int) = Nt.lb es p from fun p h => by subst hs; exact txt_at h hb)
    have Hby := hide (lb_byt hb)
    have HR := hide h
    have HN := hide hN
    have HNM := hide (show Dg es → Nmb es from fun hd => by
      refine ⟨by omega, hd, ?_⟩
      by_cases c : Nt.lb es 0 = 48
      · right
        have h1 : N = 1 := by
          rcases Nat.lt_or_ge 1 N with d | d
          · exact absurd (.inr ⟨d, c⟩) hbad
          · omega
        cases es with
        | nil => simp at hN; omega
        | cons a r =>
          have hr : r = [] := List.eq_nil_of_length_eq_zero (by simp at hN; omega)
          subst hr
          have : a = 48 := by simpa [Nt.lb] using c
          rw [this]
      · exact .inl c)
    rw [hN] at hl
    have hp0 : 0 < s.size := by omega
    have hx0 := Hix.out 0 hp0
    have hn0 : ((N : Int) == 0) = false := by simp; omega
    have hN0 : (0 : Int) < (N : Int) := by omega
    by_cases c48 : Nt.lb es 0 = 48
    · have hN1 : ¬ (1 : Int) < (N : Int) := by
        intro q
        exact hbad (.inr ⟨by omega, c48⟩)
      rw [c48] at hx0
      have hz : (1 : Int) = 1 := rfl
      clear hs hb h hN hbad c48
      go_enter Tryz.func9, Tryz.ntmps9
      go_wp2
      clear hx0 hz hn0 hN1
      go_loopg [5] N (fun c i wr => ∃ k : Nat, k ≤ N ∧ c = N - k ∧ i = .int .i64 k ∧ (∀ j, j < k → 48 ≤ Nt.lb es j ∧ Nt.lb es j ≤ 57) ∧ w = wr)
      case atStart => exact ⟨0, by omega, rfl, rfl, fun j hj => absurd hj (by omega), rfl⟩
      case round =>
        obtain ⟨k, hk, hgk, rfl, hall, hw⟩ := hrel
        subst hw
        have HALL := hide hall
        clear hall
        by_cases hkl : k < N
        · have hps : k < s.size := by omega
          have hx := Hix.out k hps
          have hby := Hby.out k
          obtain ⟨d, hdd⟩ : ∃ d, Nt.lb es k = d := ⟨_, rfl⟩
          rw [hdd] at hx hby
          have HDD := hide hdd
          clear hdd
          have q4 : (k : Int) < (N : Int) := by omega
          obtain ⟨y0, y1⟩ := hby
          by_cases c1 : d < 48
          · obtain ⟨rfl, rfl⟩ := HR.out.no (fun h => by have := h.1.2.1 _ (lb_in (by rw [HN.out]; exact hkl)); rw [HDD.out] at this; omega)
            go_wp2
            go_ret2
            exact ⟨_, rfl, num_none _ _ _, Below.refl _ _⟩
          · by_cases c2 : 57 < d
            · obtain ⟨rfl, rfl⟩ := HR.out.no (fun h => by have := h.1.2.1 _ (lb_in (by rw [HN.out]; exact hkl)); rw [HDD.out] at this; omega)
              go_wp2
              go_ret2
              exact ⟨_, rfl, num_none _ _ _, Below.refl _ _⟩
            · have HNX := hide (show ∀ j, j < k + 1 → 48 ≤ Nt.lb es j ∧ Nt.lb es j ≤ 57 from fun j hj => by
                rcases Nat.lt_or_ge j k with c | c
                · exact HALL.out j c
                · rw [show j = k by omega, HDD.out]; omega)
              go_wp2
              go_roundg (N - (k + 1))
              case measure => omega
              case rel => exact ⟨k + 1, by omega, rfl, by simp, HNX.out, rfl⟩
        · have hke : k = N := by omega
          subst hke
          have HD := hide (show Dg es from all_dg0 (fun j hj => HALL.out j (by have := HN.out; omega)))
          clear hgk hk hkl HALL
          go_wp2
          go_loopg [4, 6] k (fun c va i wr => ∃ j : Nat, j ≤ k ∧ c = k - j ∧ i = .int .i64 j ∧ Num w.heap.size wr va (dg (es.take j)) 262144 ∧ Below w.heap.size w wr)
          case atStart => exact ⟨0, by omega, rfl, rfl, by rw [List.take_zero]; exact num_none _ _ _, Below.refl _ _⟩
          case round =>
            obtain ⟨j, hj, hgj, rfl, ha, hb⟩ := hrel
            have HA := hide ha.arg
            have HNA := hide ha
            obtain ⟨zs, ⟨ao, rfl, -⟩, -, -, z7⟩ := ha
            by_cases hjl : j < k
            · have hps : j < s.size := by omega
              have hx := Hix.out j hps
              have hb9 := HD.out _ (lb_in (p := j) (by rw [HN.out]; exact hjl))
              have hv := hide (dg_take (ds := es) (k := j) (by rw [HN.out]; exact hjl))
              obtain ⟨d, hdd⟩ : ∃ d, Nt.lb es j = d := ⟨_, rfl⟩
              rw [hdd] at hx hb9 hv
              clear hdd
              obtain ⟨x0, x1⟩ := hb9
              have q4 : (j : Int) < (k : Int) := by omega
              have wd : IntKind.u8.wrap (d - 48) = d - 48 := by rw [IntKind.wrap_u8]; omega
              have wd2 : IntKind.u32.wrap (d - 48) = d - 48 := by rw [IntKind.wrap_u32]; omega
              have T0 := hide (show (0 : Int) ≤ 10 ∧ (10 : Int) < 4294967296 by omega)
              have T1 := hide (show 0 ≤ d - 48 ∧ d - 48 < 4294967296 by omega)
              have Z7 := hide z7
              clear z7
              go_upto_region 12 with fail
              go_region_held3 (fun _ => True) (exact trivial)
                (first
                  | (go_at_call 25; (refine (rmul_any (n := dg (es.take j)) (m := 10) ?_ ?_ (ka := 262144) (kb := 1) ?_ ?_).mono ?_); (first | exact HA.out.below (bl1 _ _) | exact HA.out.below (bl1d _ _) | exact HA.out.below (bl2 _ _ _) | exact HA.out.below (bl2d _ _ _)); (first | exact un_1 _ 10 T0.out.1 T0.out.2 | exact un_1d _ 10 T0.out.1 T0.out.2 | exact un_2 _ _ 10 T0.out.1 T0.out.2 | exact un_2d _ _ 10 T0.out.1 T0.out.2 | exact un_3 _ _ 10 T0.out.1 T0.out.2 | exact un_3d _ _ 10 T0.out.1 T0.out.2); omega; omega; rintro r w2 ⟨x, rfl, hx2, b2⟩)
                  | (go_at_call 24; (refine (radd_any (n := dg (es.take j) * 10) (m := d - 48) ?_ ?_ (ka := 262146) (kb := 1) ?_ ?_).mono ?_); (first | exact hx2.arg | exact hx2.arg.below (bl1 _ _)); (first | exact un_1 _ (d - 48) T1.out.1 T1.out.2 | exact (un_2 _ _ (d - 48) T1.out.1 T1.out.2).below b2 | exact (un_2d _ _ (d - 48) T1.out.1 T1.out.2).below b2 | exact (un_3 _ _ (d - 48) T1.out.1 T1.out.2).below b2 | exact (un_3d _ _ (d - 48) T1.out.1 T1.out.2).below b2); omega; omega; rintro r w3 ⟨y, rfl, hy, b3⟩; have HYN := hide hy; obtain ⟨ya, yl, rfl, yl2, hyi⟩ := num_form hy))
              all_goals (
                have K : Below wr.heap.size wr w3 := by first | exact below_trans (below_trans (below_trans (bl1d _ _) b2) (bl1 _ _)) b3 | exact below_trans (below_trans (bl2d _ _ _) b2) b3
                have s3 : w.heap.size ≤ wr.heap.size := hb.size
                have LW := hide (show Num w.heap.size w3 (.slice ya yl yl) (dg (es.take (j + 1))) 262148 from by rw [hv.out]; exact HYN.out.low (by have q1 := b2.size; have q2 := hb.size; simp at q1 ⊢; omega))
                have Fin := hide (below_trans hb K)
                rw [← hv.out] at hyi
                have HYI := hide hyi
                clear hx2 hy b2 b3 hyi K hb HYN
                by_cases hbig : yl ≤ 262144
                · have nl : decide ((262144 : Int) < (yl : Int)) = false := decide_eq_false (by omega)
                  have LN := hide (LW.out.tight (HYI.out.1 hbig))
                  clear hbig yl2
                  go_wp2
                  go_roundg (k - (j + 1))
                  case measure => omega
                  case rel => exact ⟨j + 1, by omega, rfl, by simp, LN.out, Fin.out⟩
                · have nl : (262144 : Int) < (yl : Int) := by omega
                  obtain ⟨rfl, rfl⟩ := HR.out.no (fun h => by have q1 := dg_take_le HD.out (j + 1); have q2 := h.2; exact hbig (HYI.out.2 (Int.lt_of_le_of_lt q1.2 q2)))
                  clear hbig yl2
                  go_wp2
                  go_ret2
                  exact ⟨_, rfl, num_none _ _ _, Fin.out⟩)
            · have hje : j = k := by omega
              subst hje
              have hfull : es.take j = es := List.take_of_length_le (by rw [HN.out]; omega)
              have LN := hide (show Num w.heap.size wr (.slice ao zs.length zs.length) (dg es) 262144 by have := HNA.out; rwa [hfull] at this)
              have hlt := (num_form LN.out)
              obtain ⟨_, _, hve, hvl, hiff⟩ := hlt
              obtain ⟨rfl, rfl⟩ := HR.out.yes ⟨HNM.out HD.out, hiff.1 hvl⟩
              have Fin := hide hb
              clear hb hfull z7 hve hvl hiff
              go_wp2
              go_ret2
              exact ⟨_, rfl, LN.out, Fin.out⟩
    · have hz : (Nt.lb es 0 == 48) = false := by simp [c48]
      obtain ⟨d0, hd0⟩ : ∃ d, Nt.lb es 0 = d := ⟨_, rfl⟩
      rw [hd0] at hx0 hz
      clear hs hb h hN hbad c48 hd0
      go_enter Tryz.func9, Tryz.ntmps9
      go_wp2
      clear hx0 hz hn0
      go_loopg [5] N (fun c i wr => ∃ k : Nat, k ≤ N ∧ c = N - k ∧ i = .int .i64 k ∧ (∀ j, j < k → 48 ≤ Nt.lb es j ∧ Nt.lb es j ≤ 57) ∧ w = wr)
      case atStart => exact ⟨0, by omega, rfl, rfl, fun j hj => absurd hj (by omega), rfl⟩
      case round =>
        obtain ⟨k, hk, hgk, rfl, hall, hw⟩ := hrel
        subst hw
        have HALL := hide hall
        clear hall
        by_cases hkl : k < N
        · have hps : k < s.size := by omega
          have hx := Hix.out k hps
          have hby := Hby.out k
          obtain ⟨d, hdd⟩ : ∃ d, Nt.lb es k = d := ⟨_, rfl⟩
          rw [hdd] at hx hby
          have HDD := hide hdd
          clear hdd
          have q4 : (k : Int) < (N : Int) := by omega
          obtain ⟨y0, y1⟩ := hby
          by_cases c1 : d < 48
          · obtain ⟨rfl, rfl⟩ := HR.out.no (fun h => by have := h.1.2.1 _ (lb_in (by rw [HN.out]; exact hkl)); rw [HDD.out] at this; omega)
            go_wp2
            go_ret2
            exact ⟨_, rfl, num_none _ _ _, Below.refl _ _⟩
          · by_cases c2 : 57 < d
            · obtain ⟨rfl, rfl⟩ := HR.out.no (fun h => by have := h.1.2.1 _ (lb_in (by rw [HN.out]; exact hkl)); rw [HDD.out] at this; omega)
              go_wp2
              go_ret2
              exact ⟨_, rfl, num_none _ _ _, Below.refl _ _⟩
            · have HNX := hide (show ∀ j, j < k + 1 → 48 ≤ Nt.lb es j ∧ Nt.lb es j ≤ 57 from fun j hj => by
                rcases Nat.lt_or_ge j k with c | c
                · exact HALL.out j c
                · rw [show j = k by omega, HDD.out]; omega)
              go_wp2
              go_roundg (N - (k + 1))
              case measure => omega
              case rel => exact ⟨k + 1, by omega, rfl, by simp, HNX.out, rfl⟩
        · have hke : k = N := by omega
          subst hke
          have HD := hide (show Dg es from all_dg0 (fun j hj => HALL.out j (by have := HN.out; omega)))
          clear hgk hk hkl HALL
          go_wp2
          go_loopg [4, 6] k (fun c va i wr => ∃ j : Nat, j ≤ k ∧ c = k - j ∧ i = .int .i64 j ∧ Num w.heap.size wr va (dg (es.take j)) 262144 ∧ Below w.heap.size w wr)
          case atStart => exact ⟨0, by omega, rfl, rfl, by rw [List.take_zero]; exact num_none _ _ _, Below.refl _ _⟩
          case round =>
            obtain ⟨j, hj, hgj, rfl, ha, hb⟩ := hrel
            have HA := hide ha.arg
            have HNA := hide ha
            obtain ⟨zs, ⟨ao, rfl, -⟩, -, -, z7⟩ := ha
            by_cases hjl : j < k
            · have hps : j < s.size := by omega
              have hx := Hix.out j hps
              have hb9 := HD.out _ (lb_in (p := j) (by rw [HN.out]; exact hjl))
              have hv := hide (dg_take (ds := es) (k := j) (by rw [HN.out]; exact hjl))
              obtain ⟨d, hdd⟩ : ∃ d, Nt.lb es j = d := ⟨_, rfl⟩
              rw [hdd] at hx hb9 hv
              clear hdd
              obtain ⟨x0, x1⟩ := hb9
              have q4 : (j : Int) < (k : Int) := by omega
              have wd : IntKind.u8.wrap (d - 48) = d - 48 := by rw [IntKind.wrap_u8]; omega
              have wd2 : IntKind.u32.wrap (d - 48) = d - 48 := by rw [IntKind.wrap_u32]; omega
              have T0 := hide (show (0 : Int) ≤ 10 ∧ (10 : Int) < 4294967296 by omega)
              have T1 := hide (show 0 ≤ d - 48 ∧ d - 48 < 4294967296 by omega)
              have Z7 := hide z7
              clear z7
              go_upto_region 12 with fail
              go_region_held3 (fun _ => True) (exact trivial)
                (first
                  | (go_at_call 25; (refine (rmul_any (n := dg (es.take j)) (m := 10) ?_ ?_ (ka := 262144) (kb := 1) ?_ ?_).mono ?_); (first | exact HA.out.below (bl1 _ _) | exact HA.out.below (bl1d _ _) | exact HA.out.below (bl2 _ _ _) | exact HA.out.below (bl2d _ _ _)); (first | exact un_1 _ 10 T0.out.1 T0.out.2 | exact un_1d _ 10 T0.out.1 T0.out.2 | exact un_2 _ _ 10 T0.out.1 T0.out.2 | exact un_2d _ _ 10 T0.out.1 T0.out.2 | exact un_3 _ _ 10 T0.out.1 T0.out.2 | exact un_3d _ _ 10 T0.out.1 T0.out.2); omega; omega; rintro r w2 ⟨x, rfl, hx2, b2⟩)
                  | (go_at_call 24; (refine (radd_any (n := dg (es.take j) * 10) (m := d - 48) ?_ ?_ (ka := 262146) (kb := 1) ?_ ?_).mono ?_); (first | exact hx2.arg | exact hx2.arg.below (bl1 _ _)); (first | exact un_1 _ (d - 48) T1.out.1 T1.out.2 | exact (un_2 _ _ (d - 48) T1.out.1 T1.out.2).below b2 | exact (un_2d _ _ (d - 48) T1.out.1 T1.out.2).below b2 | exact (un_3 _ _ (d - 48) T1.out.1 T1.out.2).below b2 | exact (un_3d _ _ (d - 48) T1.out.1 T1.out.2).below b2); omega; omega; rintro r w3 ⟨y, rfl, hy, b3⟩; have HYN := hide hy; obtain ⟨ya, yl, rfl, yl2, hyi⟩ := num_form hy))
              all_goals (
                have K : Below wr.heap.size wr w3 := by first | exact below_trans (below_trans (below_trans (bl1d _ _) b2) (bl1 _ _)) b3 | exact below_trans (below_trans (bl2d _ _ _) b2) b3
                have s3 : w.heap.size ≤ wr.heap.size := hb.size
                have LW := hide (show Num w.heap.size w3 (.slice ya yl yl) (dg (es.take (j + 1))) 262148 from by rw [hv.out]; exact HYN.out.low (by have q1 := b2.size; have q2 := hb.size; simp at q1 ⊢; omega))
                have Fin := hide (below_trans hb K)
                rw [← hv.out] at hyi
                have HYI := hide hyi
                clear hx2 hy b2 b3 hyi K hb HYN
                by_cases hbig : yl ≤ 262144
                · have nl : decide ((262144 : Int) < (yl : Int)) = false := decide_eq_false (by omega)
                  have LN := hide (LW.out.tight (HYI.out.1 hbig))
                  clear hbig yl2
                  go_wp2
                  go_roundg (k - (j + 1))
                  case measure => omega
                  case rel => exact ⟨j + 1, by omega, rfl, by simp, LN.out, Fin.out⟩
                · have nl : (262144 : Int) < (yl : Int) := by omega
                  obtain ⟨rfl, rfl⟩ := HR.out.no (fun h => by have q1 := dg_take_le HD.out (j + 1); have q2 := h.2; exact hbig (HYI.out.2 (Int.lt_of_le_of_lt q1.2 q2)))
                  clear hbig yl2
                  go_wp2
                  go_ret2
                  exact ⟨_, rfl, num_none _ _ _, Fin.out⟩)
            · have hje : j = k := by omega
              subst hje
              have hfull : es.take j = es := List.take_of_length_le (by rw [HN.out]; omega)
              have LN := hide (show Num w.heap.size wr (.slice ao zs.length zs.length) (dg es) 262144 by have := HNA.out; rwa [hfull] at this)
              have hlt := (num_form LN.out)
              obtain ⟨_, _, hve, hvl, hiff⟩ := hlt
              obtain ⟨rfl, rfl⟩ := HR.out.yes ⟨HNM.out HD.out, hiff.1 hvl⟩
              have Fin := hide hb
              clear hb hfull z7 hve hvl hiff
              go_wp2
              go_ret2
              exact ⟨_, rfl, LN.out, Fin.out⟩

end Go.Proofs.YtllddhiflnfhaaaGreatDoor

namespace Go.Proofs.YtllddhiflnfhaaaGreatDoor
open Go.RowKit

/-- what a text tells -/
def Fd (u : ByteArray) (b : Bool) (n : Int) : Prop := ∃ es, Byt es ∧ u = strOfNums es ∧ es.length ≤ 134217728 ∧ Rdv es b n
theorem fd_any (u : ByteArray) (h : u.size ≤ 134217728) : ∃ b n, Fd u b n := by
  obtain ⟨es, h1, h2, h3⟩ := Go.Proofs.YtllddhiflnfhaaaGreatDoor.txt_of u
  refine ⟨@decide (Nmb es ∧ dg es < Nt.pw 262144) (Classical.propDecidable _), _, es, h1, h3, by omega, ⟨?_, rfl⟩⟩
  exact @decide_eq_true_iff _ (Classical.propDecidable _)
theorem rread_fd {w : World} {u : ByteArray} {b : Bool} {n : Int} (h : Fd u b n) :
    Calls Tryz.prog 9 #[.string u] w fun e w' => ∃ v, e = .returned (.tuple #[v, .bool b]) ∧ Num w.heap.size w' v n 262144 ∧ Below w.heap.size w w' := by
  obtain ⟨es, h1, h2, h3, h4⟩ := h
  exact rread_any h1 h2 h3 h4
theorem qread_fd {w : World} {u : ByteArray} {b : Bool} {n : Int} (h : Fd u b n) :
    Calls Tryz.prog 10 #[.string u] w fun e w' => ∃ v, e = .returned (.tuple #[v, .bool b]) ∧ Num w.heap.size w' v n 262144 ∧ Below w.heap.size w w' := by
  obtain ⟨es, h1, h2, h3, h4⟩ := h
  exact qread_any h1 h2 h3 h4
/-- both tell a number in one way -/
def Dtx (V : Int) (s : ByteArray) : Prop := ∃ ds, s = strOfNums ds ∧ Dstr V ds ∧ ds.length ≤ 10200000
theorem qdigits_tx {w : World} {va : Value} {V : Int} {kk : Nat} (ha : Arg w va V kk) (hkk : kk ≤ 1048576) :
    Calls Tryz.prog 5 #[va] w fun e w' => ∃ s, e = .returned (.string s) ∧ Dtx V s ∧ Below w.heap.size w w' := by
  refine (digits_any ha hkk).mono ?_
  rintro e w' ⟨ds, rfl, h1, h2, h3⟩
  exact ⟨_, rfl, ⟨ds, rfl, h1, h2⟩, h3⟩
theorem rdigits_tx {w : World} {va : Value} {V : Int} {kk : Nat} {s : ByteArray} (hs : Dtx V s) (ha : Arg w va V kk) (hkk : kk ≤ 1048576) :
    Calls Tryz.prog 6 #[va] w fun e w' => e = .returned (.string s) ∧ Below w.heap.size w w' := by
  refine (rdigits_any ha hkk).mono ?_
  rintro e w' ⟨ds, rfl, h1, h3⟩
  obtain ⟨es, rfl, h4, _⟩ := hs
  rw [h1.unique h4]
  exact ⟨rfl, h3⟩
theorem rdigits_first {w : World} {va : Value} {V : Int} {kk : Nat} (ha : Arg w va V kk) (hkk : kk ≤ 1048576) :
    Calls Tryz.prog 6 #[va] w fun e w' => ∃ ds, e = .returned (.string (strOfNums ds)) ∧ Dstr V ds ∧ Below w.heap.size w w' := rdigits_any ha hkk
theorem qdigits_same {w : World} {va : Value} {V : Int} {kk : Nat} {es : List Int} (hs : Dstr V es) (ha : Arg w va V kk) (hkk : kk ≤ 1048576) :
    Calls Tryz.prog 5 #[va] w fun e w' => e = .returned (.string (strOfNums es)) ∧ es.length ≤ 10200000 ∧ Below w.heap.size w w' := by
  refine (digits_any ha hkk).mono ?_
  rintro e w' ⟨ds, rfl, h1, h2, h3⟩
  have := h1.unique hs
  subst this
  exact ⟨rfl, h2, h3⟩

set_option maxRecDepth 20000 in
set_option maxHeartbeats 8000000 in
theorem digits_walk {w : World} {va vb : Value} {xs ys : List Int} {s t : ByteArray} (ha : Reads .u32 w va xs) (hb : Reads .u32 w vb ys) (ox : Nt.Ok xs) (oy : Nt.Ok ys) (lx : xs.length ≤ 1048576) (ly : ys.length ≤ 1048576) (hs : s.size ≤ 1048576) (ht : t.size ≤ 1048576) :
    Calls Tryz.prog 3 #[va, vb, .string s, .string t] w fun e w' => e = .returned (.bool true) ∧ Below w.heap.size w w' := by
  have HA := hide ha
  have HB := hide hb
  obtain ⟨ao, ca, rfl, _⟩ := ha
  obtain ⟨bo, cb, rfl, _⟩ := hb
  go_enter Tryz.func3, Tryz.ntmps3
  obtain ⟨w0, hw0⟩ : ∃ w0, w0 = w.alloc (.cells (bookCells 0 (.slice none 0 0)) 39) := ⟨_, rfl⟩
  have hb0 : Below w.heap.size w w0 := by rw [hw0]; exact below_alloc w _
  have HK0 : Hid (Kept w.heap.size w0 w.heap.size (.slice none 0 0) (nilled [])) := hide (by
    refine ⟨Nat.le_refl _, ?_, World.ownsRow_nil _ _ _ _⟩
    unfold BookAt
    rw [hw0, heap_alloc_new]
    rfl)
  go_wp2_with fail
  have hw0' : w.alloc (.cells #[.int .i64 0, .slice none 0 0, .slice none 0 0, .slice none 0 0, .slice none 0 0, .slice none 0 0, .slice none 0 0, .slice none 0 0, .slice none 0 0, .slice none 0 0, .slice none 0 0, .slice none 0 0, .slice none 0 0, .slice none 0 0, .slice none 0 0] 39) = w0 := by rw [hw0]; rfl
  rw [hw0']
  clear hw0 hw0'
  with_reducible refine (twin_any (HA.out.below hb0) (by omega)).mono ?_
  rintro e w1 ⟨xv, rfl, tx, hb1⟩
  have TX := hide tx
  obtain ⟨gx, hxv, hgx, _⟩ := tx
  subst hxv
  have hg0 : w.heap.size ≤ gx := by have := hb0.size; omega
  have HK := hide (HK0.out.below hb1)
  have hW := below_trans hb0 hb1
  clear HK0 hb0 hb1
  go_wp2_with fail
  with_reducible refine (qdigits_tx (TX.out.reads.argk ox lx) (by omega)).mono ?_
  rintro e w10 ⟨s1, rfl, hq1, hbq⟩
  replace TX := hide (TX.out.below hbq)
  replace HK := hide (HK.out.below hbq)
  replace hW := below_trans hW hbq
  clear hbq
  go_wp2_with fail
  with_reducible refine (rdigits_tx hq1 ((HA.out.below hW).argk ox lx) (by omega)).mono ?_
  rintro e w11 ⟨rfl, hbq⟩
  replace TX := hide (TX.out.below hbq)
  replace HK := hide (HK.out.below hbq)
  replace hW := below_trans hW hbq
  clear hbq hq1
  go_wp2_with fail
  with_reducible refine (twin_any (HB.out.below hW) (by omega)).mono ?_
  rintro e w15 ⟨yv, rfl, ty, hbq⟩
  have TY := hide ty
  obtain ⟨gy, hyv, _⟩ := ty
  subst hyv
  replace TX := hide (TX.out.below hbq)
  replace HK := hide (HK.out.below hbq)
  replace hW := below_trans hW hbq
  clear hbq
  go_wp2_with fail
  with_reducible refine (qdigits_tx (TY.out.reads.argk oy ly) (by omega)).mono ?_
  rintro e w20 ⟨s2, rfl, hq2, hbq⟩
  replace TX := hide (TX.out.below hbq)
  replace HK := hide (HK.out.below hbq)
  replace hW := below_trans hW hbq
  clear hbq
  go_wp2_with fail
  with_reducible refine (rdigits_tx hq2 ((HB.out.below hW).argk oy ly) (by omega)).mono ?_
  rintro e w21 ⟨rfl, hbq⟩
  replace TX := hide (TX.out.below hbq)
  replace HK := hide (HK.out.below hbq)
  replace hW := below_trans hW hbq
  clear hbq hq2
  clear TY
  go_wp2_with fail
  with_reducible refine (qdigits_tx (TX.out.reads.argk ox lx) (by omega)).mono ?_
  rintro e w30 ⟨s3, rfl, hq3, hbq⟩
  replace TX := hide (TX.out.below hbq)
  replace HK := hide (HK.out.below hbq)
  replace hW := below_trans hW hbq
  clear hbq
  go_wp2_with fail
  with_reducible refine (rdigits_tx hq3 ((HA.out.below hW).argk ox lx) (by omega)).mono ?_
  rintro e w31 ⟨rfl, hbq⟩
  replace TX := hide (TX.out.below hbq)
  replace HK := hide (HK.out.below hbq)
  replace hW := below_trans hW hbq
  clear hbq hq3
  go_wp2_with fail
  with_reducible refine (left_any TX.out (HA.out.below hW)).mono ?_
  rintro e wl ⟨rfl, hbl⟩
  replace TX := hide (TX.out.below hbl)
  replace HK := hide (HK.out.below hbl)
  replace hW := below_trans hW hbl
  clear hbl
  obtain ⟨gx', ex, _, hmx, hrx⟩ := TX.out
  cases ex
  go_wp2_with fail
  with_reducible refine (over_any (n := xs.length) hrx (ok_app ox (by omega)) (by simp) lx HB.out oy hW hg0).mono ?_
  rintro e wo ⟨rfl, zs, hzl, hzo, hrz, hon⟩
  replace HK := hide (HK.out.grown hon.grownBy (fun k e => by cases e; exact ⟨_, hrx⟩))
  have LX := hide (lies_over (n := xs.length) hrz hzl hmx)
  replace hW := hW.trans (hon.below hg0 hW.size)
  have oz := Nt.ok_take hzo xs.length
  have lz : (zs.take xs.length).length ≤ 1048576 := by rw [List.length_take]; omega
  generalize zs.take xs.length = us at *
  clear hon hrx TX hrz hzl hzo
  go_wp2_with fail
  with_reducible refine (twin_any LX.out.reads (by omega)).mono ?_
  rintro e wt ⟨tv, rfl, tt, hbt⟩
  have TT2 := hide tt
  obtain ⟨gt, htv, _⟩ := tt
  subst htv
  go_wp2_with fail
  with_reducible refine (rdigits_first (TT2.out.reads.argk oz lz) (by omega)).mono ?_
  rintro e wu ⟨want, rfl, hwant, hbu⟩
  go_wp2_with fail
  with_reducible refine (qdigits_same hwant (((LX.out.below hbt).below hbu).arg oz lz) (by omega)).mono ?_
  rintro e wv ⟨rfl, hgs, hbv⟩
  have hgz : (strOfNums want).size ≤ 134217728 := by rw [strOfNums_size]; omega
  generalize strOfNums want = got at *
  have hbb := below_trans (below_trans hbt hbu) hbv
  replace HK := hide (HK.out.below hbb)
  replace hW := below_trans hW hbb
  clear hbb hbt hbu hbv hwant TT2 LX hgs
  obtain ⟨wA, hwA⟩ : ∃ wA, wA = wv.alloc (.cells #[.string s, .string t, .string s, .string got] 44) := ⟨_, rfl⟩
  have hbA : Below wv.heap.size wv wA := by rw [hwA]; exact below_alloc wv _
  have hcA : wA.heap[wv.heap.size]? = some (.cells #[.string s, .string t, .string s, .string got] 44 (0, 0)) := by rw [hwA]; exact heap_alloc_new wv _
  have hgA : w.heap.size ≤ wv.heap.size := hW.size
  have hgB : w.heap.size ≠ wv.heap.size := by have := HK.out.book.lt; omega
  generalize hgv : wv.heap.size = gA at *
  have HK1 := hide (HK.out.below (by rw [hgv]; exact hbA))
  have hW1 : Below w.heap.size w wA := below_trans hW (by rw [hgv]; exact hbA)
  have hM0 : Mem w.heap.size wA [] := ⟨fun v hv => (by cases hv), List.Pairwise.nil, fun v hv => (by cases hv)⟩
  have hgot4 : got.size ≤ 134217728 := hgz
  clear hbA HK hW
  go_wp2
  rw [← hwA]
  clear hwA
  go_loopg [13] 4 (fun q i wr => ∃ (k : Nat) (all : List Value) (lv : Value), k + q = 4 ∧ i = .int .i64 k ∧ all.length = k ∧ Kept w.heap.size wr w.heap.size lv (nilled all) ∧ Mem w.heap.size wr all ∧ wr.heap[gA]? = some (.cells #[.string s, .string t, .string s, .string got] 44 (0, 0)) ∧ Below w.heap.size w wr)
  case atStart => exact ⟨0, [], .slice none 0 0, by omega, rfl, rfl, HK1.out, hM0, hcA, hW1⟩
  case round =>
    clear HK1 hM0 hcA hW1
    obtain ⟨k, all, lv, hkq, rfl, hal, hkept, hmem, hcs, hW⟩ := hrel
    have hsz := hW.size
    cases gk with
    | zero =>
      have hk3 : k = 4 := by omega
      have hap := apart_mem hkept hsz (by omega) hmem
      have k3 : ¬ (k : Int) < 4 := by omega
      clear hcs hkept hmem
      go_wp2_with fail
      with_reducible refine hap.mono ?_
      clear hap
      rintro e w1 ⟨rfl, hB⟩
      replace hW := hW.trans hB
      clear hB
      go_wp2_with fail
      with_reducible refine qlives_any.mono ?_
      rintro e w2 ⟨rfl, hB⟩
      replace hW := below_trans hW hB
      clear hB
      go_wp2
      go_ret
      exact ⟨rfl, hW⟩
    | succ q =>
      have k3 : (k : Int) < 4 := by omega
      obtain ⟨uk, huk, hck⟩ : ∃ uk : ByteArray, uk.size ≤ 134217728 ∧ wr.cell? ⟨gA, k, none⟩ = some (.string uk) := by
        have e1 := cell_of_row wr gA k _ _ _ hcs
        have hk : k < 4 := by omega
        match k, hk with
        | 0, _ => exact ⟨s, by omega, e1⟩
        | 1, _ => exact ⟨t, by omega, e1⟩
        | 2, _ => exact ⟨s, by omega, e1⟩
        | 3, _ => exact ⟨got, hgot4, e1⟩
        | k + 4, h => omega
      obtain ⟨b, n, hfb⟩ := fd_any uk huk
      have hgl : gA < wr.heap.size := (Array.getElem?_eq_some_iff.1 hcs).1
      have HC := hide hcs
      clear hcs
      go_wp2_with fail
      with_reducible refine (rread_fd hfb).mono ?_
      rintro e w1 ⟨v1, rfl, h1, hB1⟩
      have hck1 := (hB1.cell (p := ⟨gA, k, none⟩) hgl).trans hck
      have H1 := hide h1
      obtain ⟨_, ⟨a1, rfl, _⟩, _⟩ := h1
      clear hck
      go_wp2_with fail
      with_reducible refine (qread_fd hfb).mono ?_
      rintro e w2 ⟨v2, rfl, h2, hB2⟩
      have hB12 := below_trans hB1 hB2
      have HK2 := hide (hkept.below hB12)
      have HM2 := hide ((hmem.below hB1).snoc hB2 h2 (by omega) (by have := hB1.size; omega))
      have HC2 : Hid (w2.heap[gA]? = some (.cells #[.string s, .string t, .string s, .string got] 44 (0, 0))) := hide (by rw [hB12.block _ hgl]; exact HC.out)
      have hW2 := below_trans hW hB12
      have SM := hide (same_num h2 (H1.out.below hB2) rfl)
      obtain ⟨_, ⟨a2, rfl, _⟩, _⟩ := h2
      have hbb : (b == b) = true := by simp
      clear HC hck1 hB1 hB2 hB12 hkept hmem H1 hW hgl
      go_wp2_with fail
      with_reducible refine SM.out.mono ?_
      rintro e w3 ⟨rfl, hB3⟩
      have hl2 : gA < w2.heap.size := (Array.getElem?_eq_some_iff.1 HC2.out).1
      have HC3 : Hid (w3.heap[gA]? = some (.cells #[.string s, .string t, .string s, .string got] 44 (0, 0))) := hide (by rw [hB3.block _ hl2]; exact HC2.out)
      have HK3 := hide (HK2.out.below hB3)
      have HM3 := hide (HM2.out.below hB3)
      have hW3 := below_trans hW2 hB3
      clear HC2 HK2 HM2 hW2 hB3 hl2 SM
      go_wp2_with fail
      with_reducible refine (nat_any HK3.out hW3.size (by rw [nilled_length]; omega)).mono ?_
      rintro e w4 ⟨rfl, lv', hk4, hoff⟩
      have HM4 := hide (HM3.out.off HK3.out hoff)
      have HC4 := hide (arr_off HK3.out hoff HC3.out (by decide) hgB.symm)
      have hW4 := hW3.trans (hoff.below HK3.out hW3.size)
      rw [← nilled_snoc] at hk4
      have HK4 := hide hk4
      clear hk4 hoff HK3 HM3 HC3 hW3
      go_wp2
      go_roundg q
      case measure => omega
      case rel => exact ⟨k + 1, _, lv', by omega, by first | rfl | simp, by simp [hal], HK4.out, HM4.out, HC4.out, hW4⟩

theorem digits_arg {w : World} {va vb : Value} {n m : Int} {ka kb : Nat} {s t : ByteArray} (ha : Arg w va n ka) (hb : Arg w vb m kb) (hs : s.size ≤ 1048576) (ht : t.size ≤ 1048576) (hka : ka ≤ 1048576) (hkb : kb ≤ 1048576) :
    Calls Tryz.prog 3 #[va, vb, .string s, .string t] w fun e w' => e = .returned (.bool true) ∧ Below w.heap.size w w' := by
  obtain ⟨xs, h1, h2, _, h3⟩ := ha
  obtain ⟨ys, g1, g2, _, g3⟩ := hb
  exact digits_walk h1 g1 h2 g2 (by omega) (by omega) hs ht

end Go.Proofs.YtllddhiflnfhaaaGreatDoor
