/- NatParts -/
import Derived.Test.YtlfkfeedopgfjabLives
import Derived.Test.YtlfkfeedopgfjabSub
import Derived.Test.YtlfkfeedopgfjabNorm
import Derived.Test.YtlfkfeedopgfjabBeyond
import Derived.Test.YtlfkfeedopgfjabSmall
import Derived.Test.YtlfkfeedopgfjabLen
import Derived.Test.YtlfkfeedopgfjabUint
import Derived.Test.YtlfkfeedopgfjabAppZero
namespace Go.Proofs.Ytlfkfeedopgfjab
open Go.RowKit

theorem beyond1 {w : World} {g : Nat} {ao : Option Addr} {la ca : Nat} (ha : la ≤ 70368744177664) (h0 : w.cell? ⟨g, 0, none⟩ = some (.slice ao la ca)) :
    Calls Try.prog 6 #[.slice (some ⟨g, 0, none⟩) 1 1] w fun e w' => e = .returned (.bool (decide (1048576 < tot [la]))) ∧ w' = w := by
  refine beyond_any (ls := [la]) (by simp) (fun i => ?_) (fun i hi => ?_)
  · match i with
    | 0 => simpa using ha
    | i + 1 => simp
  · match i, hi with
    | 0, _ => exact ⟨_, _, h0⟩
theorem small_qr {w : World} {va : Value} {n d Q R : Int} {ka : Nat} (ha : Arg w va n ka) (hka : ka ≤ 1099511627776) (hd0 : 0 < d) (hd1 : d < 4294967296) (hQ : n / d = Q) (hR : n % d = R) :
    Calls Try.prog 18 #[va, .int .u32 d] w fun e w' => ∃ v, e = .returned (.tuple #[v, .int .u32 R, .bool true]) ∧ Num w.heap.size w' v Q ka ∧ Below w.heap.size w w' := by
  subst hQ hR
  exact small_yes ha hka hd0 hd1
theorem num_nil (w : World) : Num 0 w (.slice none 0 0) 0 0 := ⟨[], ⟨none, rfl, by unfold maxLen; simp, fun h => absurd h (by simp)⟩, Nt.canon_nil, rfl, Nat.le_refl _⟩
theorem cmp_same {w : World} {va vb : Value} {n : Int} {ka kb : Nat} (ha : Arg w va n ka) (hb : Arg w vb n kb) (hka : ka ≤ 1099511627776) (hkb : kb ≤ 1099511627776) :
    Calls Try.prog 8 #[va, vb] w fun e w' => e = .returned (.int .i64 0) ∧ Below w.heap.size w w' := by
  have := cmp_any ha hb hka hkb
  rw [sgn_eq rfl] at this
  exact this
theorem len_le_64 {n : Int} {k : Nat} (h : IsLen n k) (hn : n < 18446744073709551616) : k ≤ 64 := by
  by_cases hk : k ≤ 64
  · exact hk
  · have h1 := h.2 (by omega)
    have h2 := p2_mono (m := 64) (n := k - 1) (by omega)
    rw [show p2 64 = 18446744073709551616 by decide] at h2
    omega
theorem len_gt_64 {n : Int} {k : Nat} (h : IsLen n k) (hn : 18446744073709551616 ≤ n) : 64 < k := by
  by_cases hk : 64 < k
  · exact hk
  · have h1 := h.1
    have h2 := p2_mono (m := k) (n := 64) (by omega)
    rw [show p2 64 = 18446744073709551616 by decide] at h2
    omega
/-- the length is told by the number -/
theorem len_eq {w : World} {va : Value} {n : Int} {ka k : Nat} (ha : Arg w va n ka) (hka : ka ≤ 1099511627776) (h : IsLen n k) :
    Calls Try.prog 17 #[va] w fun e w' => e = .returned (.int .i64 k) ∧ w' = w := by
  refine (len_any ha hka).mono ?_
  rintro e w' ⟨m, rfl, hm, _, rfl⟩
  rw [isLen_unique hm h]
  exact ⟨rfl, rfl⟩
theorem arg_long {w w1 w2 : World} {B : Nat} {v1 v2 : Value} {xs : List Int} {m : Nat} (h1 : w1.ownsRow B 40 1 v1 xs.length (xs.map (Value.int .u32))) (h2 : w2.ownsRow B 40 1 v2 (xs.length + m) (xs.map (Value.int .u32) ++ List.replicate m (.int .u32 0)))
    (g1 : w.grownBy w1 none) (g2 : w1.grownBy w2 v1.ownBlock) (hB : B = w.heap.size) (ho : Nt.Ok xs) (hl : xs.length ≤ 1048576) (hm : m ≤ 255) : Below w.heap.size w w2 ∧ Arg w2 v2 (Nt.val xs) 1048831 := by
  subst hB
  have b1 : Below w.heap.size w w1 := (Below.refl _ _).grown g1 (Nat.le_refl _) (fun k h => by cases h)
  have b2 := b1.grown g2 b1.size (fun k h => (h1.lt k h).1)
  refine ⟨b2, xs ++ List.replicate m 0, ?_, ok_noughts ho m, val_noughts xs m, by simp; omega⟩
  exact reads_of_owns (n := xs.length + m) (by simpa using h2)

set_option maxHeartbeats 4000000 in
theorem parts_00 {w : World} {va : Value} {xs : List Int} {d N : Int} (ha : Reads .u32 w va xs) (oa : Nt.Ok xs) (la : xs.length ≤ 70368744177664) (hN0 : 0 ≤ N) (hN1 : N ≤ 255) (hd1 : d < 4294967296) (hsml : ¬ 1048576 < tot [xs.length])
    (hd : d = 0)
    (hf : 18446744073709551616 ≤ Nt.val xs) :
    Calls Try.prog 5 #[va, .int .u32 d, .int .u8 N] w fun e w' => e = .returned (.bool true) ∧ Below w.heap.size w w' := by
  obtain ⟨ao, ca, rfl, ha1, ha2, ha3⟩ := ha
  have hbey := fun (W : World) => beyond1 (w := W) (g := w.heap.size) (ao := ao) (ca := ca) la
  rw [decide_eq_false hsml] at hbey
  have Hbey := hide hbey
  simp only [tot] at hsml
  have hlx : xs.length ≤ 1048576 := by omega
  have h_a : Arg w (.slice ao xs.length ca) (Nt.val xs) 1048576 := ⟨xs, ⟨ao, ca, rfl, ha1, ha2, ha3⟩, oa, rfl, by omega⟩
  have nA := h_a.nonneg
  subst hd
  have hNe : N = (N.toNat : Int) := by omega
  obtain ⟨m, hm⟩ : ∃ m, N.toNat = m := ⟨_, rfl⟩
  rw [hm] at hNe
  subst hNe
  clear hm hbey hsml
  have hrd := hide (show _ ∧ _ ∧ _ from ⟨ha1, ha2, ha3⟩)
  clear ha1 ha2 ha3
  go_enter Try.func5, Try.ntmps5
  go_wp2_with fail
  refine Calls.mono (Hbey.out _ (by simp)) ?_
  rintro e w1 ⟨rfl, rfl⟩
  clear Hbey
  have hW : Below w.heap.size w (w.alloc (.cells #[.slice ao xs.length ca] 23)) := below_alloc _ _
  replace h_a := h_a.below hW
  go_wp2_with fail
  refine (lives_any).mono ?_
  rintro e w2 ⟨rfl, hB⟩
  replace hW := below_trans hW hB
  replace h_a := h_a.below hB
  clear hB
  go_wp2_with fail
  refine (small_no).mono ?_
  rintro e w3 ⟨rfl, rfl⟩
  have hcs := h_a
  clear hcs
  have hcell0 : Cells .u32 w3 ao xs := hrd.out.2.2.below hW
  go_wp2_with (at_builtin; refine wpList_append_cells _ rfl _ _ 23 rfl w3.heap.size 40 .u32 4 Try.underlying23 Try.infoU32 (.slice none 0 0) 0 [] rfl (by simpa using World.ownsRow_nil w3 w3.heap.size 40 1) ao ca xs rfl hcell0 (by unfold maxLen; omega) (by omega) (Nat.le_refl _) ?_)
  intro v1 y1 ho1 hg1
  try simp only [Nat.zero_add, List.nil_append] at ho1
  have hgs := hg1.size
  go_wp2_with (at_builtin; refine wpList_append_zeros _ rfl _ _ 23 3 rfl w3.heap.size 40 .i64 .u32 4 Try.underlying23 Try.underlying3 Try.infoU32 v1 xs.length _ rfl ho1 m _ rfl (by omega) (by unfold maxLen; omega) (by omega) hgs ?_)
  intro v2 y2 ho2 hg2
  obtain ⟨hB, h_l⟩ := arg_long ho1 ho2 hg1 hg2 rfl oa hlx (by omega)
  clear ho1 ho2 hg1 hg2 hgs hcell0
  replace hW := below_trans hW hB
  replace h_a := h_a.below hB
  clear hB
  go_wp2_with fail
  refine (small_no).mono ?_
  rintro e w50 ⟨rfl, rfl⟩
  go_wp2_with fail
  refine (uint_no h_a.arg hf).mono ?_
  rintro e w51 ⟨rfl, rfl⟩
  go_wp2_with fail
  refine (same_num (num_nil _) (num_nil _) rfl).mono ?_
  rintro e w52 ⟨rfl, hB⟩
  replace hW := below_trans hW hB
  replace h_a := h_a.below hB
  replace h_l := h_l.below hB
  clear hB
  go_wp2_with fail
  refine (cmp_same h_l.arg h_a.arg (by omega) (by omega)).mono ?_
  rintro e w53 ⟨rfl, hB⟩
  replace hW := below_trans hW hB
  replace h_a := h_a.below hB
  replace h_l := h_l.below hB
  clear hB
  go_wp2_with fail
  refine (len_any h_l.arg (by omega)).mono ?_
  rintro e w54 ⟨kk, rfl, hkk, hkb, rfl⟩
  have hk64 := len_gt_64 hkk hf
  have hk64' : ¬ (kk : Int) ≤ 64 := by omega
  have Hkk := hide hkk
  clear hkk
  go_wp2_with fail
  refine (len_eq h_a.arg (by omega) Hkk.out).mono ?_
  rintro e w55 ⟨rfl, rfl⟩
  go_wp2_with fail
  refine (len_eq h_a.arg (by omega) Hkk.out).mono ?_
  rintro e w56 ⟨rfl, rfl⟩
  go_wp2_with fail
  refine (norm_any h_l.arg (by omega)).mono ?_
  rintro e w57 ⟨v_z1, rfl, h_z1, hB⟩
  replace hW := below_trans hW hB
  replace h_a := h_a.below hB
  clear hB h_l
  go_wp2_with fail
  refine (norm_any h_a.arg (by omega)).mono ?_
  rintro e w58 ⟨v_z2, rfl, h_z2, hB⟩
  replace hW := below_trans hW hB
  replace h_a := h_a.below hB
  replace h_z1 := h_z1.below hB
  clear hB
  go_wp2_with fail
  refine (same_num h_z1 h_z2 (rfl)).mono ?_
  rintro e w59 ⟨rfl, hB⟩
  replace hW := below_trans hW hB
  replace h_a := h_a.below hB
  clear hB h_z1 h_z2
  go_wp2_with fail
  refine (norm_any h_a.arg (by omega)).mono ?_
  rintro e w60 ⟨v_z3, rfl, h_z3, hB⟩
  replace hW := below_trans hW hB
  clear hB h_a
  go_wp2_with fail
  refine (listed_num h_z3).mono ?_
  rintro e w61 ⟨rfl, rfl⟩
  go_wp2
  go_ret
  exact ⟨rfl, hW⟩

set_option maxHeartbeats 4000000 in
theorem parts_01 {w : World} {va : Value} {xs : List Int} {d N : Int} (ha : Reads .u32 w va xs) (oa : Nt.Ok xs) (la : xs.length ≤ 70368744177664) (hN0 : 0 ≤ N) (hN1 : N ≤ 255) (hd1 : d < 4294967296) (hsml : ¬ 1048576 < tot [xs.length])
    (hd : d = 0)
    (hf : Nt.val xs < 18446744073709551616) :
    Calls Try.prog 5 #[va, .int .u32 d, .int .u8 N] w fun e w' => e = .returned (.bool true) ∧ Below w.heap.size w w' := by
  obtain ⟨ao, ca, rfl, ha1, ha2, ha3⟩ := ha
  have hbey := fun (W : World) => beyond1 (w := W) (g := w.heap.size) (ao := ao) (ca := ca) la
  rw [decide_eq_false hsml] at hbey
  have Hbey := hide hbey
  simp only [tot] at hsml
  have hlx : xs.length ≤ 1048576 := by omega
  have h_a : Arg w (.slice ao xs.length ca) (Nt.val xs) 1048576 := ⟨xs, ⟨ao, ca, rfl, ha1, ha2, ha3⟩, oa, rfl, by omega⟩
  have nA := h_a.nonneg
  subst hd
  have hNe : N = (N.toNat : Int) := by omega
  obtain ⟨m, hm⟩ : ∃ m, N.toNat = m := ⟨_, rfl⟩
  rw [hm] at hNe
  subst hNe
  clear hm hbey hsml
  have hrd := hide (show _ ∧ _ ∧ _ from ⟨ha1, ha2, ha3⟩)
  clear ha1 ha2 ha3
  go_enter Try.func5, Try.ntmps5
  go_wp2_with fail
  refine Calls.mono (Hbey.out _ (by simp)) ?_
  rintro e w1 ⟨rfl, rfl⟩
  clear Hbey
  have hW : Below w.heap.size w (w.alloc (.cells #[.slice ao xs.length ca] 23)) := below_alloc _ _
  replace h_a := h_a.below hW
  go_wp2_with fail
  refine (lives_any).mono ?_
  rintro e w2 ⟨rfl, hB⟩
  replace hW := below_trans hW hB
  replace h_a := h_a.below hB
  clear hB
  go_wp2_with fail
  refine (small_no).mono ?_
  rintro e w3 ⟨rfl, rfl⟩
  have hcs := h_a
  clear hcs
  have hcell0 : Cells .u32 w3 ao xs := hrd.out.2.2.below hW
  go_wp2_with (at_builtin; refine wpList_append_cells _ rfl _ _ 23 rfl w3.heap.size 40 .u32 4 Try.underlying23 Try.infoU32 (.slice none 0 0) 0 [] rfl (by simpa using World.ownsRow_nil w3 w3.heap.size 40 1) ao ca xs rfl hcell0 (by unfold maxLen; omega) (by omega) (Nat.le_refl _) ?_)
  intro v1 y1 ho1 hg1
  try simp only [Nat.zero_add, List.nil_append] at ho1
  have hgs := hg1.size
  go_wp2_with (at_builtin; refine wpList_append_zeros _ rfl _ _ 23 3 rfl w3.heap.size 40 .i64 .u32 4 Try.underlying23 Try.underlying3 Try.infoU32 v1 xs.length _ rfl ho1 m _ rfl (by omega) (by unfold maxLen; omega) (by omega) hgs ?_)
  intro v2 y2 ho2 hg2
  obtain ⟨hB, h_l⟩ := arg_long ho1 ho2 hg1 hg2 rfl oa hlx (by omega)
  clear ho1 ho2 hg1 hg2 hgs hcell0
  replace hW := below_trans hW hB
  replace h_a := h_a.below hB
  clear hB
  go_wp2_with fail
  refine (small_no).mono ?_
  rintro e w50 ⟨rfl, rfl⟩
  go_wp2_with fail
  refine (uint_yes h_a.arg hf).mono ?_
  rintro e w51 ⟨rfl, rfl⟩
  go_wp2_with fail
  refine (same_num (num_nil _) (num_nil _) rfl).mono ?_
  rintro e w52 ⟨rfl, hB⟩
  replace hW := below_trans hW hB
  replace h_a := h_a.below hB
  replace h_l := h_l.below hB
  clear hB
  go_wp2_with fail
  refine (cmp_same h_l.arg h_a.arg (by omega) (by omega)).mono ?_
  rintro e w53 ⟨rfl, hB⟩
  replace hW := below_trans hW hB
  replace h_a := h_a.below hB
  replace h_l := h_l.below hB
  clear hB
  go_wp2_with fail
  refine (len_any h_l.arg (by omega)).mono ?_
  rintro e w54 ⟨kk, rfl, hkk, hkb, rfl⟩
  have hk64 := len_le_64 hkk hf
  have hk64' : decide ((kk : Int) ≤ 64) = true := by simp; omega
  have Hkk := hide hkk
  clear hkk
  go_wp2_with fail
  refine (len_eq h_a.arg (by omega) Hkk.out).mono ?_
  rintro e w55 ⟨rfl, rfl⟩
  go_wp2_with fail
  refine (len_eq h_a.arg (by omega) Hkk.out).mono ?_
  rintro e w56 ⟨rfl, rfl⟩
  go_wp2_with fail
  refine (norm_any h_l.arg (by omega)).mono ?_
  rintro e w57 ⟨v_z1, rfl, h_z1, hB⟩
  replace hW := below_trans hW hB
  replace h_a := h_a.below hB
  clear hB h_l
  go_wp2_with fail
  refine (norm_any h_a.arg (by omega)).mono ?_
  rintro e w58 ⟨v_z2, rfl, h_z2, hB⟩
  replace hW := below_trans hW hB
  replace h_a := h_a.below hB
  replace h_z1 := h_z1.below hB
  clear hB
  go_wp2_with fail
  refine (same_num h_z1 h_z2 (rfl)).mono ?_
  rintro e w59 ⟨rfl, hB⟩
  replace hW := below_trans hW hB
  replace h_a := h_a.below hB
  clear hB h_z1 h_z2
  go_wp2_with fail
  refine (norm_any h_a.arg (by omega)).mono ?_
  rintro e w60 ⟨v_z3, rfl, h_z3, hB⟩
  replace hW := below_trans hW hB
  replace h_a := h_a.below hB
  clear hB
  go_wp2_with fail
  refine (listed_num h_z3).mono ?_
  rintro e w61 ⟨rfl, rfl⟩
  go_wp2_with fail
  refine (from_any _ nA hf).mono ?_
  rintro e w62 ⟨v_z4, rfl, h_z4, hB⟩
  replace hW := below_trans hW hB
  replace h_a := h_a.below hB
  clear hB h_z3
  go_wp2_with fail
  refine (norm_any h_a.arg (by omega)).mono ?_
  rintro e w63 ⟨v_z5, rfl, h_z5, hB⟩
  replace hW := below_trans hW hB
  replace h_z4 := h_z4.below hB
  clear hB h_a
  go_wp2_with fail
  refine (same_num h_z4 h_z5 (rfl)).mono ?_
  rintro e w64 ⟨rfl, hB⟩
  replace hW := below_trans hW hB
  clear hB h_z4 h_z5
  go_wp2
  go_ret
  exact ⟨rfl, hW⟩

set_option maxHeartbeats 4000000 in
theorem parts_10 {w : World} {va : Value} {xs : List Int} {d N : Int} (ha : Reads .u32 w va xs) (oa : Nt.Ok xs) (la : xs.length ≤ 70368744177664) (hN0 : 0 ≤ N) (hN1 : N ≤ 255) (hd1 : d < 4294967296) (hsml : ¬ 1048576 < tot [xs.length])
    (hd0 : 0 < d) (hR : 0 = Nt.val xs % d)
    (hf : 18446744073709551616 ≤ Nt.val xs) :
    Calls Try.prog 5 #[va, .int .u32 d, .int .u8 N] w fun e w' => e = .returned (.bool true) ∧ Below w.heap.size w w' := by
  obtain ⟨ao, ca, rfl, ha1, ha2, ha3⟩ := ha
  have hbey := fun (W : World) => beyond1 (w := W) (g := w.heap.size) (ao := ao) (ca := ca) la
  rw [decide_eq_false hsml] at hbey
  have Hbey := hide hbey
  simp only [tot] at hsml
  have hlx : xs.length ≤ 1048576 := by omega
  have h_a : Arg w (.slice ao xs.length ca) (Nt.val xs) 1048576 := ⟨xs, ⟨ao, ca, rfl, ha1, ha2, ha3⟩, oa, rfl, by omega⟩
  have nA := h_a.nonneg
  have hdz : (d != 0) = true := by simp; omega
  obtain ⟨Q, hQ⟩ : ∃ Q, Nt.val xs / d = Q := ⟨_, rfl⟩
  obtain ⟨R, hRR⟩ : ∃ R, Nt.val xs % d = R := ⟨_, rfl⟩
  have hQR : Q * d + R = Nt.val xs := by rw [← hQ, ← hRR, Int.mul_comm]; exact Int.mul_ediv_add_emod _ _
  have r0 : 0 ≤ R := by rw [← hRR]; exact Int.emod_nonneg _ (by omega)
  have r1 : R < d := by rw [← hRR]; exact Int.emod_lt_of_pos _ hd0
  rw [hRR] at hR
  have hR' : ¬ 0 < R := by omega
  have HR := hide hR
  clear hR
  have HQ := hide hQ
  have HRR := hide hRR
  have HQR := hide hQR
  clear hQ hRR hQR
  have hNe : N = (N.toNat : Int) := by omega
  obtain ⟨m, hm⟩ : ∃ m, N.toNat = m := ⟨_, rfl⟩
  rw [hm] at hNe
  subst hNe
  clear hm hbey hsml
  have hrd := hide (show _ ∧ _ ∧ _ from ⟨ha1, ha2, ha3⟩)
  clear ha1 ha2 ha3
  go_enter Try.func5, Try.ntmps5
  go_wp2_with fail
  refine Calls.mono (Hbey.out _ (by simp)) ?_
  rintro e w1 ⟨rfl, rfl⟩
  clear Hbey
  have hW : Below w.heap.size w (w.alloc (.cells #[.slice ao xs.length ca] 23)) := below_alloc _ _
  replace h_a := h_a.below hW
  go_wp2_with fail
  refine (lives_any).mono ?_
  rintro e w2 ⟨rfl, hB⟩
  replace hW := below_trans hW hB
  replace h_a := h_a.below hB
  clear hB
  go_wp2_with fail
  refine (small_qr h_a.arg (by omega) hd0 hd1 HQ.out HRR.out).mono ?_
  rintro e w3 ⟨v_q, rfl, h_q, hB⟩
  replace hW := below_trans hW hB
  replace h_a := h_a.below hB
  clear hB
  go_wp2_with fail
  refine (mul_any (h_q.below (below_alloc _ _)).arg (arg_one _ ⟨by omega, hd1⟩) (by omega) (by omega)).mono ?_
  rintro e w4 ⟨v_m, rfl, h_m, hB⟩
  replace hB := below_trans (below_alloc _ _) hB
  replace hW := below_trans hW hB
  replace h_a := h_a.below hB
  replace h_q := h_q.below hB
  clear hB
  go_wp2_with fail
  refine (add_any (h_m.below (below_alloc _ _)).arg (arg_one _ ⟨by omega, by omega⟩) (by omega) (by omega)).mono ?_
  rintro e w5 ⟨v_s, rfl, h_s, hB⟩
  replace hB := below_trans (below_alloc _ _) hB
  replace hW := below_trans hW hB
  replace h_a := h_a.below hB
  replace h_q := h_q.below hB
  clear hB h_m
  go_wp2_with fail
  refine (norm_any h_a.arg (by omega)).mono ?_
  rintro e w6 ⟨v_n0, rfl, h_n0, hB⟩
  replace hW := below_trans hW hB
  replace h_a := h_a.below hB
  replace h_q := h_q.below hB
  replace h_s := h_s.below hB
  clear hB
  go_wp2_with fail
  refine (same_num h_s h_n0 (HQR.out)).mono ?_
  rintro e w7 ⟨rfl, hB⟩
  replace hW := below_trans hW hB
  replace h_a := h_a.below hB
  replace h_q := h_q.below hB
  clear hB h_s h_n0
  have hcs := h_a
  clear hcs
  have hcell0 : Cells .u32 w7 ao xs := hrd.out.2.2.below hW
  go_wp2_with (at_builtin; refine wpList_append_cells _ rfl _ _ 23 rfl w7.heap.size 40 .u32 4 Try.underlying23 Try.infoU32 (.slice none 0 0) 0 [] rfl (by simpa using World.ownsRow_nil w7 w7.heap.size 40 1) ao ca xs rfl hcell0 (by unfold maxLen; omega) (by omega) (Nat.le_refl _) ?_)
  intro v1 y1 ho1 hg1
  try simp only [Nat.zero_add, List.nil_append] at ho1
  have hgs := hg1.size
  go_wp2_with (at_builtin; refine wpList_append_zeros _ rfl _ _ 23 3 rfl w7.heap.size 40 .i64 .u32 4 Try.underlying23 Try.underlying3 Try.infoU32 v1 xs.length _ rfl ho1 m _ rfl (by omega) (by unfold maxLen; omega) (by omega) hgs ?_)
  intro v2 y2 ho2 hg2
  obtain ⟨hB, h_l⟩ := arg_long ho1 ho2 hg1 hg2 rfl oa hlx (by omega)
  clear ho1 ho2 hg1 hg2 hgs hcell0
  replace hW := below_trans hW hB
  replace h_a := h_a.below hB
  replace h_q := h_q.below hB
  clear hB
  go_wp2_with fail
  refine (small_qr h_l.arg (by omega) hd0 hd1 HQ.out HRR.out).mono ?_
  rintro e w50 ⟨v_x, rfl, h_x, hB⟩
  replace hW := below_trans hW hB
  replace h_a := h_a.below hB
  replace h_q := h_q.below hB
  replace h_l := h_l.below hB
  clear hB
  go_wp2_with fail
  refine (uint_no h_a.arg hf).mono ?_
  rintro e w51 ⟨rfl, rfl⟩
  go_wp2_with fail
  refine (same_num h_x h_q (rfl)).mono ?_
  rintro e w52 ⟨rfl, hB⟩
  replace hW := below_trans hW hB
  replace h_a := h_a.below hB
  replace h_l := h_l.below hB
  clear hB h_q h_x
  go_wp2_with fail
  refine (cmp_same h_l.arg h_a.arg (by omega) (by omega)).mono ?_
  rintro e w53 ⟨rfl, hB⟩
  replace hW := below_trans hW hB
  replace h_a := h_a.below hB
  replace h_l := h_l.below hB
  clear hB
  go_wp2_with fail
  refine (len_any h_l.arg (by omega)).mono ?_
  rintro e w54 ⟨kk, rfl, hkk, hkb, rfl⟩
  have hk64 := len_gt_64 hkk hf
  have hk64' : ¬ (kk : Int) ≤ 64 := by omega
  have Hkk := hide hkk
  clear hkk
  go_wp2_with fail
  refine (len_eq h_a.arg (by omega) Hkk.out).mono ?_
  rintro e w55 ⟨rfl, rfl⟩
  go_wp2_with fail
  refine (len_eq h_a.arg (by omega) Hkk.out).mono ?_
  rintro e w56 ⟨rfl, rfl⟩
  go_wp2_with fail
  refine (norm_any h_l.arg (by omega)).mono ?_
  rintro e w57 ⟨v_z1, rfl, h_z1, hB⟩
  replace hW := below_trans hW hB
  replace h_a := h_a.below hB
  clear hB h_l
  go_wp2_with fail
  refine (norm_any h_a.arg (by omega)).mono ?_
  rintro e w58 ⟨v_z2, rfl, h_z2, hB⟩
  replace hW := below_trans hW hB
  replace h_a := h_a.below hB
  replace h_z1 := h_z1.below hB
  clear hB
  go_wp2_with fail
  refine (same_num h_z1 h_z2 (rfl)).mono ?_
  rintro e w59 ⟨rfl, hB⟩
  replace hW := below_trans hW hB
  replace h_a := h_a.below hB
  clear hB h_z1 h_z2
  go_wp2_with fail
  refine (norm_any h_a.arg (by omega)).mono ?_
  rintro e w60 ⟨v_z3, rfl, h_z3, hB⟩
  replace hW := below_trans hW hB
  clear hB h_a
  go_wp2_with fail
  refine (listed_num h_z3).mono ?_
  rintro e w61 ⟨rfl, rfl⟩
  go_wp2
  go_ret
  exact ⟨rfl, hW⟩

set_option maxHeartbeats 4000000 in
theorem parts_11 {w : World} {va : Value} {xs : List Int} {d N : Int} (ha : Reads .u32 w va xs) (oa : Nt.Ok xs) (la : xs.length ≤ 70368744177664) (hN0 : 0 ≤ N) (hN1 : N ≤ 255) (hd1 : d < 4294967296) (hsml : ¬ 1048576 < tot [xs.length])
    (hd0 : 0 < d) (hR : 0 = Nt.val xs % d)
    (hf : Nt.val xs < 18446744073709551616) :
    Calls Try.prog 5 #[va, .int .u32 d, .int .u8 N] w fun e w' => e = .returned (.bool true) ∧ Below w.heap.size w w' := by
  obtain ⟨ao, ca, rfl, ha1, ha2, ha3⟩ := ha
  have hbey := fun (W : World) => beyond1 (w := W) (g := w.heap.size) (ao := ao) (ca := ca) la
  rw [decide_eq_false hsml] at hbey
  have Hbey := hide hbey
  simp only [tot] at hsml
  have hlx : xs.length ≤ 1048576 := by omega
  have h_a : Arg w (.slice ao xs.length ca) (Nt.val xs) 1048576 := ⟨xs, ⟨ao, ca, rfl, ha1, ha2, ha3⟩, oa, rfl, by omega⟩
  have nA := h_a.nonneg
  have hdz : (d != 0) = true := by simp; omega
  obtain ⟨Q, hQ⟩ : ∃ Q, Nt.val xs / d = Q := ⟨_, rfl⟩
  obtain ⟨R, hRR⟩ : ∃ R, Nt.val xs % d = R := ⟨_, rfl⟩
  have hQR : Q * d + R = Nt.val xs := by rw [← hQ, ← hRR, Int.mul_comm]; exact Int.mul_ediv_add_emod _ _
  have r0 : 0 ≤ R := by rw [← hRR]; exact Int.emod_nonneg _ (by omega)
  have r1 : R < d := by rw [← hRR]; exact Int.emod_lt_of_pos _ hd0
  rw [hRR] at hR
  have hR' : ¬ 0 < R := by omega
  have HR := hide hR
  clear hR
  have HQ := hide hQ
  have HRR := hide hRR
  have HQR := hide hQR
  clear hQ hRR hQR
  have hNe : N = (N.toNat : Int) := by omega
  obtain ⟨m, hm⟩ : ∃ m, N.toNat = m := ⟨_, rfl⟩
  rw [hm] at hNe
  subst hNe
  clear hm hbey hsml
  have hrd := hide (show _ ∧ _ ∧ _ from ⟨ha1, ha2, ha3⟩)
  clear ha1 ha2 ha3
  go_enter Try.func5, Try.ntmps5
  go_wp2_with fail
  refine Calls.mono (Hbey.out _ (by simp)) ?_
  rintro e w1 ⟨rfl, rfl⟩
  clear Hbey
  have hW : Below w.heap.size w (w.alloc (.cells #[.slice ao xs.length ca] 23)) := below_alloc _ _
  replace h_a := h_a.below hW
  go_wp2_with fail
  refine (lives_any).mono ?_
  rintro e w2 ⟨rfl, hB⟩
  replace hW := below_trans hW hB
  replace h_a := h_a.below hB
  clear hB
  go_wp2_with fail
  refine (small_qr h_a.arg (by omega) hd0 hd1 HQ.out HRR.out).mono ?_
  rintro e w3 ⟨v_q, rfl, h_q, hB⟩
  replace hW := below_trans hW hB
  replace h_a := h_a.below hB
  clear hB
  go_wp2_with fail
  refine (mul_any (h_q.below (below_alloc _ _)).arg (arg_one _ ⟨by omega, hd1⟩) (by omega) (by omega)).mono ?_
  rintro e w4 ⟨v_m, rfl, h_m, hB⟩
  replace hB := below_trans (below_alloc _ _) hB
  replace hW := below_trans hW hB
  replace h_a := h_a.below hB
  replace h_q := h_q.below hB
  clear hB
  go_wp2_with fail
  refine (add_any (h_m.below (below_alloc _ _)).arg (arg_one _ ⟨by omega, by omega⟩) (by omega) (by omega)).mono ?_
  rintro e w5 ⟨v_s, rfl, h_s, hB⟩
  replace hB := below_trans (below_alloc _ _) hB
  replace hW := below_trans hW hB
  replace h_a := h_a.below hB
  replace h_q := h_q.below hB
  clear hB h_m
  go_wp2_with fail
  refine (norm_any h_a.arg (by omega)).mono ?_
  rintro e w6 ⟨v_n0, rfl, h_n0, hB⟩
  replace hW := below_trans hW hB
  replace h_a := h_a.below hB
  replace h_q := h_q.below hB
  replace h_s := h_s.below hB
  clear hB
  go_wp2_with fail
  refine (same_num h_s h_n0 (HQR.out)).mono ?_
  rintro e w7 ⟨rfl, hB⟩
  replace hW := below_trans hW hB
  replace h_a := h_a.below hB
  replace h_q := h_q.below hB
  clear hB h_s h_n0
  have hcs := h_a
  clear hcs
  have hcell0 : Cells .u32 w7 ao xs := hrd.out.2.2.below hW
  go_wp2_with (at_builtin; refine wpList_append_cells _ rfl _ _ 23 rfl w7.heap.size 40 .u32 4 Try.underlying23 Try.infoU32 (.slice none 0 0) 0 [] rfl (by simpa using World.ownsRow_nil w7 w7.heap.size 40 1) ao ca xs rfl hcell0 (by unfold maxLen; omega) (by omega) (Nat.le_refl _) ?_)
  intro v1 y1 ho1 hg1
  try simp only [Nat.zero_add, List.nil_append] at ho1
  have hgs := hg1.size
  go_wp2_with (at_builtin; refine wpList_append_zeros _ rfl _ _ 23 3 rfl w7.heap.size 40 .i64 .u32 4 Try.underlying23 Try.underlying3 Try.infoU32 v1 xs.length _ rfl ho1 m _ rfl (by omega) (by unfold maxLen; omega) (by omega) hgs ?_)
  intro v2 y2 ho2 hg2
  obtain ⟨hB, h_l⟩ := arg_long ho1 ho2 hg1 hg2 rfl oa hlx (by omega)
  clear ho1 ho2 hg1 hg2 hgs hcell0
  replace hW := below_trans hW hB
  replace h_a := h_a.below hB
  replace h_q := h_q.below hB
  clear hB
  go_wp2_with fail
  refine (small_qr h_l.arg (by omega) hd0 hd1 HQ.out HRR.out).mono ?_
  rintro e w50 ⟨v_x, rfl, h_x, hB⟩
  replace hW := below_trans hW hB
  replace h_a := h_a.below hB
  replace h_q := h_q.below hB
  replace h_l := h_l.below hB
  clear hB
  go_wp2_with fail
  refine (uint_yes h_a.arg hf).mono ?_
  rintro e w51 ⟨rfl, rfl⟩
  go_wp2_with fail
  refine (same_num h_x h_q (rfl)).mono ?_
  rintro e w52 ⟨rfl, hB⟩
  replace hW := below_trans hW hB
  replace h_a := h_a.below hB
  replace h_l := h_l.below hB
  clear hB h_q h_x
  go_wp2_with fail
  refine (cmp_same h_l.arg h_a.arg (by omega) (by omega)).mono ?_
  rintro e w53 ⟨rfl, hB⟩
  replace hW := below_trans hW hB
  replace h_a := h_a.below hB
  replace h_l := h_l.below hB
  clear hB
  go_wp2_with fail
  refine (len_any h_l.arg (by omega)).mono ?_
  rintro e w54 ⟨kk, rfl, hkk, hkb, rfl⟩
  have hk64 := len_le_64 hkk hf
  have hk64' : decide ((kk : Int) ≤ 64) = true := by simp; omega
  have Hkk := hide hkk
  clear hkk
  go_wp2_with fail
  refine (len_eq h_a.arg (by omega) Hkk.out).mono ?_
  rintro e w55 ⟨rfl, rfl⟩
  go_wp2_with fail
  refine (len_eq h_a.arg (by omega) Hkk.out).mono ?_
  rintro e w56 ⟨rfl, rfl⟩
  go_wp2_with fail
  refine (norm_any h_l.arg (by omega)).mono ?_
  rintro e w57 ⟨v_z1, rfl, h_z1, hB⟩
  replace hW := below_trans hW hB
  replace h_a := h_a.below hB
  clear hB h_l
  go_wp2_with fail
  refine (norm_any h_a.arg (by omega)).mono ?_
  rintro e w58 ⟨v_z2, rfl, h_z2, hB⟩
  replace hW := below_trans hW hB
  replace h_a := h_a.below hB
  replace h_z1 := h_z1.below hB
  clear hB
  go_wp2_with fail
  refine (same_num h_z1 h_z2 (rfl)).mono ?_
  rintro e w59 ⟨rfl, hB⟩
  replace hW := below_trans hW hB
  replace h_a := h_a.below hB
  clear hB h_z1 h_z2
  go_wp2_with fail
  refine (norm_any h_a.arg (by omega)).mono ?_
  rintro e w60 ⟨v_z3, rfl, h_z3, hB⟩
  replace hW := below_trans hW hB
  replace h_a := h_a.below hB
  clear hB
  go_wp2_with fail
  refine (listed_num h_z3).mono ?_
  rintro e w61 ⟨rfl, rfl⟩
  go_wp2_with fail
  refine (from_any _ nA hf).mono ?_
  rintro e w62 ⟨v_z4, rfl, h_z4, hB⟩
  replace hW := below_trans hW hB
  replace h_a := h_a.below hB
  clear hB h_z3
  go_wp2_with fail
  refine (norm_any h_a.arg (by omega)).mono ?_
  rintro e w63 ⟨v_z5, rfl, h_z5, hB⟩
  replace hW := below_trans hW hB
  replace h_z4 := h_z4.below hB
  clear hB h_a
  go_wp2_with fail
  refine (same_num h_z4 h_z5 (rfl)).mono ?_
  rintro e w64 ⟨rfl, hB⟩
  replace hW := below_trans hW hB
  clear hB h_z4 h_z5
  go_wp2
  go_ret
  exact ⟨rfl, hW⟩

set_option maxHeartbeats 4000000 in
theorem parts_20 {w : World} {va : Value} {xs : List Int} {d N : Int} (ha : Reads .u32 w va xs) (oa : Nt.Ok xs) (la : xs.length ≤ 70368744177664) (hN0 : 0 ≤ N) (hN1 : N ≤ 255) (hd1 : d < 4294967296) (hsml : ¬ 1048576 < tot [xs.length])
    (hd0 : 0 < d) (hR : 0 < Nt.val xs % d)
    (hf : 18446744073709551616 ≤ Nt.val xs) :
    Calls Try.prog 5 #[va, .int .u32 d, .int .u8 N] w fun e w' => e = .returned (.bool true) ∧ Below w.heap.size w w' := by
  obtain ⟨ao, ca, rfl, ha1, ha2, ha3⟩ := ha
  have hbey := fun (W : World) => beyond1 (w := W) (g := w.heap.size) (ao := ao) (ca := ca) la
  rw [decide_eq_false hsml] at hbey
  have Hbey := hide hbey
  simp only [tot] at hsml
  have hlx : xs.length ≤ 1048576 := by omega
  have h_a : Arg w (.slice ao xs.length ca) (Nt.val xs) 1048576 := ⟨xs, ⟨ao, ca, rfl, ha1, ha2, ha3⟩, oa, rfl, by omega⟩
  have nA := h_a.nonneg
  have hdz : (d != 0) = true := by simp; omega
  obtain ⟨Q, hQ⟩ : ∃ Q, Nt.val xs / d = Q := ⟨_, rfl⟩
  obtain ⟨R, hRR⟩ : ∃ R, Nt.val xs % d = R := ⟨_, rfl⟩
  have hQR : Q * d + R = Nt.val xs := by rw [← hQ, ← hRR, Int.mul_comm]; exact Int.mul_ediv_add_emod _ _
  have r0 : 0 ≤ R := by rw [← hRR]; exact Int.emod_nonneg _ (by omega)
  have r1 : R < d := by rw [← hRR]; exact Int.emod_lt_of_pos _ hd0
  rw [hRR] at hR
  have HQ := hide hQ
  have HRR := hide hRR
  have HQR := hide hQR
  clear hQ hRR hQR
  have hNe : N = (N.toNat : Int) := by omega
  obtain ⟨m, hm⟩ : ∃ m, N.toNat = m := ⟨_, rfl⟩
  rw [hm] at hNe
  subst hNe
  clear hm hbey hsml
  have hrd := hide (show _ ∧ _ ∧ _ from ⟨ha1, ha2, ha3⟩)
  clear ha1 ha2 ha3
  go_enter Try.func5, Try.ntmps5
  go_wp2_with fail
  refine Calls.mono (Hbey.out _ (by simp)) ?_
  rintro e w1 ⟨rfl, rfl⟩
  clear Hbey
  have hW : Below w.heap.size w (w.alloc (.cells #[.slice ao xs.length ca] 23)) := below_alloc _ _
  replace h_a := h_a.below hW
  go_wp2_with fail
  refine (lives_any).mono ?_
  rintro e w2 ⟨rfl, hB⟩
  replace hW := below_trans hW hB
  replace h_a := h_a.below hB
  clear hB
  go_wp2_with fail
  refine (small_qr h_a.arg (by omega) hd0 hd1 HQ.out HRR.out).mono ?_
  rintro e w3 ⟨v_q, rfl, h_q, hB⟩
  replace hW := below_trans hW hB
  replace h_a := h_a.below hB
  clear hB
  go_wp2_with fail
  refine (mul_any (h_q.below (below_alloc _ _)).arg (arg_one _ ⟨by omega, hd1⟩) (by omega) (by omega)).mono ?_
  rintro e w4 ⟨v_m, rfl, h_m, hB⟩
  replace hB := below_trans (below_alloc _ _) hB
  replace hW := below_trans hW hB
  replace h_a := h_a.below hB
  replace h_q := h_q.below hB
  clear hB
  go_wp2_with fail
  refine (add_any (h_m.below (below_alloc _ _)).arg (arg_one _ ⟨by omega, by omega⟩) (by omega) (by omega)).mono ?_
  rintro e w5 ⟨v_s, rfl, h_s, hB⟩
  replace hB := below_trans (below_alloc _ _) hB
  replace hW := below_trans hW hB
  replace h_a := h_a.below hB
  replace h_q := h_q.below hB
  clear hB h_m
  go_wp2_with fail
  refine (norm_any h_a.arg (by omega)).mono ?_
  rintro e w6 ⟨v_n0, rfl, h_n0, hB⟩
  replace hW := below_trans hW hB
  replace h_a := h_a.below hB
  replace h_q := h_q.below hB
  replace h_s := h_s.below hB
  clear hB
  go_wp2_with fail
  refine (same_num h_s h_n0 (HQR.out)).mono ?_
  rintro e w7 ⟨rfl, hB⟩
  replace hW := below_trans hW hB
  replace h_a := h_a.below hB
  replace h_q := h_q.below hB
  clear hB h_s h_n0
  have hcs := h_a
  clear hcs
  have hcell0 : Cells .u32 w7 ao xs := hrd.out.2.2.below hW
  go_wp2_with (at_builtin; refine wpList_append_cells _ rfl _ _ 23 rfl w7.heap.size 40 .u32 4 Try.underlying23 Try.infoU32 (.slice none 0 0) 0 [] rfl (by simpa using World.ownsRow_nil w7 w7.heap.size 40 1) ao ca xs rfl hcell0 (by unfold maxLen; omega) (by omega) (Nat.le_refl _) ?_)
  intro v1 y1 ho1 hg1
  try simp only [Nat.zero_add, List.nil_append] at ho1
  have hgs := hg1.size
  go_wp2_with (at_builtin; refine wpList_append_zeros _ rfl _ _ 23 3 rfl w7.heap.size 40 .i64 .u32 4 Try.underlying23 Try.underlying3 Try.infoU32 v1 xs.length _ rfl ho1 m _ rfl (by omega) (by unfold maxLen; omega) (by omega) hgs ?_)
  intro v2 y2 ho2 hg2
  obtain ⟨hB, h_l⟩ := arg_long ho1 ho2 hg1 hg2 rfl oa hlx (by omega)
  clear ho1 ho2 hg1 hg2 hgs hcell0
  replace hW := below_trans hW hB
  replace h_a := h_a.below hB
  replace h_q := h_q.below hB
  clear hB
  go_wp2_with fail
  refine (small_qr h_l.arg (by omega) hd0 hd1 HQ.out HRR.out).mono ?_
  rintro e w50 ⟨v_x, rfl, h_x, hB⟩
  replace hW := below_trans hW hB
  replace h_a := h_a.below hB
  replace h_q := h_q.below hB
  replace h_l := h_l.below hB
  clear hB
  go_wp2_with fail
  refine (uint_no h_a.arg hf).mono ?_
  rintro e w51 ⟨rfl, rfl⟩
  go_wp2_with fail
  refine (same_num h_x h_q (rfl)).mono ?_
  rintro e w52 ⟨rfl, hB⟩
  replace hW := below_trans hW hB
  replace h_a := h_a.below hB
  replace h_l := h_l.below hB
  clear hB h_q h_x
  go_wp2_with fail
  refine (cmp_same h_l.arg h_a.arg (by omega) (by omega)).mono ?_
  rintro e w53 ⟨rfl, hB⟩
  replace hW := below_trans hW hB
  replace h_a := h_a.below hB
  replace h_l := h_l.below hB
  clear hB
  go_wp2_with fail
  refine (len_any h_l.arg (by omega)).mono ?_
  rintro e w54 ⟨kk, rfl, hkk, hkb, rfl⟩
  have hk64 := len_gt_64 hkk hf
  have hk64' : ¬ (kk : Int) ≤ 64 := by omega
  have Hkk := hide hkk
  clear hkk
  go_wp2_with fail
  refine (len_eq h_a.arg (by omega) Hkk.out).mono ?_
  rintro e w55 ⟨rfl, rfl⟩
  go_wp2_with fail
  refine (len_eq h_a.arg (by omega) Hkk.out).mono ?_
  rintro e w56 ⟨rfl, rfl⟩
  go_wp2_with fail
  refine (norm_any h_l.arg (by omega)).mono ?_
  rintro e w57 ⟨v_z1, rfl, h_z1, hB⟩
  replace hW := below_trans hW hB
  replace h_a := h_a.below hB
  clear hB h_l
  go_wp2_with fail
  refine (norm_any h_a.arg (by omega)).mono ?_
  rintro e w58 ⟨v_z2, rfl, h_z2, hB⟩
  replace hW := below_trans hW hB
  replace h_a := h_a.below hB
  replace h_z1 := h_z1.below hB
  clear hB
  go_wp2_with fail
  refine (same_num h_z1 h_z2 (rfl)).mono ?_
  rintro e w59 ⟨rfl, hB⟩
  replace hW := below_trans hW hB
  replace h_a := h_a.below hB
  clear hB h_z1 h_z2
  go_wp2_with fail
  refine (norm_any h_a.arg (by omega)).mono ?_
  rintro e w60 ⟨v_z3, rfl, h_z3, hB⟩
  replace hW := below_trans hW hB
  clear hB h_a
  go_wp2_with fail
  refine (listed_num h_z3).mono ?_
  rintro e w61 ⟨rfl, rfl⟩
  go_wp2
  go_ret
  exact ⟨rfl, hW⟩

set_option maxHeartbeats 4000000 in
theorem parts_21 {w : World} {va : Value} {xs : List Int} {d N : Int} (ha : Reads .u32 w va xs) (oa : Nt.Ok xs) (la : xs.length ≤ 70368744177664) (hN0 : 0 ≤ N) (hN1 : N ≤ 255) (hd1 : d < 4294967296) (hsml : ¬ 1048576 < tot [xs.length])
    (hd0 : 0 < d) (hR : 0 < Nt.val xs % d)
    (hf : Nt.val xs < 18446744073709551616) :
    Calls Try.prog 5 #[va, .int .u32 d, .int .u8 N] w fun e w' => e = .returned (.bool true) ∧ Below w.heap.size w w' := by
  obtain ⟨ao, ca, rfl, ha1, ha2, ha3⟩ := ha
  have hbey := fun (W : World) => beyond1 (w := W) (g := w.heap.size) (ao := ao) (ca := ca) la
  rw [decide_eq_false hsml] at hbey
  have Hbey := hide hbey
  simp only [tot] at hsml
  have hlx : xs.length ≤ 1048576 := by omega
  have h_a : Arg w (.slice ao xs.length ca) (Nt.val xs) 1048576 := ⟨xs, ⟨ao, ca, rfl, ha1, ha2, ha3⟩, oa, rfl, by omega⟩
  have nA := h_a.nonneg
  have hdz : (d != 0) = true := by simp; omega
  obtain ⟨Q, hQ⟩ : ∃ Q, Nt.val xs / d = Q := ⟨_, rfl⟩
  obtain ⟨R, hRR⟩ : ∃ R, Nt.val xs % d = R := ⟨_, rfl⟩
  have hQR : Q * d + R = Nt.val xs := by rw [← hQ, ← hRR, Int.mul_comm]; exact Int.mul_ediv_add_emod _ _
  have r0 : 0 ≤ R := by rw [← hRR]; exact Int.emod_nonneg _ (by omega)
  have r1 : R < d := by rw [← hRR]; exact Int.emod_lt_of_pos _ hd0
  rw [hRR] at hR
  have HQ := hide hQ
  have HRR := hide hRR
  have HQR := hide hQR
  clear hQ hRR hQR
  have hNe : N = (N.toNat : Int) := by omega
  obtain ⟨m, hm⟩ : ∃ m, N.toNat = m := ⟨_, rfl⟩
  rw [hm] at hNe
  subst hNe
  clear hm hbey hsml
  have hrd := hide (show _ ∧ _ ∧ _ from ⟨ha1, ha2, ha3⟩)
  clear ha1 ha2 ha3
  go_enter Try.func5, Try.ntmps5
  go_wp2_with fail
  refine Calls.mono (Hbey.out _ (by simp)) ?_
  rintro e w1 ⟨rfl, rfl⟩
  clear Hbey
  have hW : Below w.heap.size w (w.alloc (.cells #[.slice ao xs.length ca] 23)) := below_alloc _ _
  replace h_a := h_a.below hW
  go_wp2_with fail
  refine (lives_any).mono ?_
  rintro e w2 ⟨rfl, hB⟩
  replace hW := below_trans hW hB
  replace h_a := h_a.below hB
  clear hB
  go_wp2_with fail
  refine (small_qr h_a.arg (by omega) hd0 hd1 HQ.out HRR.out).mono ?_
  rintro e w3 ⟨v_q, rfl, h_q, hB⟩
  replace hW := below_trans hW hB
  replace h_a := h_a.below hB
  clear hB
  go_wp2_with fail
  refine (mul_any (h_q.below (below_alloc _ _)).arg (arg_one _ ⟨by omega, hd1⟩) (by omega) (by omega)).mono ?_
  rintro e w4 ⟨v_m, rfl, h_m, hB⟩
  replace hB := below_trans (below_alloc _ _) hB
  replace hW := below_trans hW hB
  replace h_a := h_a.below hB
  replace h_q := h_q.below hB
  clear hB
  go_wp2_with fail
  refine (add_any (h_m.below (below_alloc _ _)).arg (arg_one _ ⟨by omega, by omega⟩) (by omega) (by omega)).mono ?_
  rintro e w5 ⟨v_s, rfl, h_s, hB⟩
  replace hB := below_trans (below_alloc _ _) hB
  replace hW := below_trans hW hB
  replace h_a := h_a.below hB
  replace h_q := h_q.below hB
  clear hB h_m
  go_wp2_with fail
  refine (norm_any h_a.arg (by omega)).mono ?_
  rintro e w6 ⟨v_n0, rfl, h_n0, hB⟩
  replace hW := below_trans hW hB
  replace h_a := h_a.below hB
  replace h_q := h_q.below hB
  replace h_s := h_s.below hB
  clear hB
  go_wp2_with fail
  refine (same_num h_s h_n0 (HQR.out)).mono ?_
  rintro e w7 ⟨rfl, hB⟩
  replace hW := below_trans hW hB
  replace h_a := h_a.below hB
  replace h_q := h_q.below hB
  clear hB h_s h_n0
  have hcs := h_a
  clear hcs
  have hcell0 : Cells .u32 w7 ao xs := hrd.out.2.2.below hW
  go_wp2_with (at_builtin; refine wpList_append_cells _ rfl _ _ 23 rfl w7.heap.size 40 .u32 4 Try.underlying23 Try.infoU32 (.slice none 0 0) 0 [] rfl (by simpa using World.ownsRow_nil w7 w7.heap.size 40 1) ao ca xs rfl hcell0 (by unfold maxLen; omega) (by omega) (Nat.le_refl _) ?_)
  intro v1 y1 ho1 hg1
  try simp only [Nat.zero_add, List.nil_append] at ho1
  have hgs := hg1.size
  go_wp2_with (at_builtin; refine wpList_append_zeros _ rfl _ _ 23 3 rfl w7.heap.size 40 .i64 .u32 4 Try.underlying23 Try.underlying3 Try.infoU32 v1 xs.length _ rfl ho1 m _ rfl (by omega) (by unfold maxLen; omega) (by omega) hgs ?_)
  intro v2 y2 ho2 hg2
  obtain ⟨hB, h_l⟩ := arg_long ho1 ho2 hg1 hg2 rfl oa hlx (by omega)
  clear ho1 ho2 hg1 hg2 hgs hcell0
  replace hW := below_trans hW hB
  replace h_a := h_a.below hB
  replace h_q := h_q.below hB
  clear hB
  go_wp2_with fail
  refine (small_qr h_l.arg (by omega) hd0 hd1 HQ.out HRR.out).mono ?_
  rintro e w50 ⟨v_x, rfl, h_x, hB⟩
  replace hW := below_trans hW hB
  replace h_a := h_a.below hB
  replace h_q := h_q.below hB
  replace h_l := h_l.below hB
  clear hB
  go_wp2_with fail
  refine (uint_yes h_a.arg hf).mono ?_
  rintro e w51 ⟨rfl, rfl⟩
  go_wp2_with fail
  refine (same_num h_x h_q (rfl)).mono ?_
  rintro e w52 ⟨rfl, hB⟩
  replace hW := below_trans hW hB
  replace h_a := h_a.below hB
  replace h_l := h_l.below hB
  clear hB h_q h_x
  go_wp2_with fail
  refine (cmp_same h_l.arg h_a.arg (by omega) (by omega)).mono ?_
  rintro e w53 ⟨rfl, hB⟩
  replace hW := below_trans hW hB
  replace h_a := h_a.below hB
  replace h_l := h_l.below hB
  clear hB
  go_wp2_with fail
  refine (len_any h_l.arg (by omega)).mono ?_
  rintro e w54 ⟨kk, rfl, hkk, hkb, rfl⟩
  have hk64 := len_le_64 hkk hf
  have hk64' : decide ((kk : Int) ≤ 64) = true := by simp; omega
  have Hkk := hide hkk
  clear hkk
  go_wp2_with fail
  refine (len_eq h_a.arg (by omega) Hkk.out).mono ?_
  rintro e w55 ⟨rfl, rfl⟩
  go_wp2_with fail
  refine (len_eq h_a.arg (by omega) Hkk.out).mono ?_
  rintro e w56 ⟨rfl, rfl⟩
  go_wp2_with fail
  refine (norm_any h_l.arg (by omega)).mono ?_
  rintro e w57 ⟨v_z1, rfl, h_z1, hB⟩
  replace hW := below_trans hW hB
  replace h_a := h_a.below hB
  clear hB h_l
  go_wp2_with fail
  refine (norm_any h_a.arg (by omega)).mono ?_
  rintro e w58 ⟨v_z2, rfl, h_z2, hB⟩
  replace hW := below_trans hW hB
  replace h_a := h_a.below hB
  replace h_z1 := h_z1.below hB
  clear hB
  go_wp2_with fail
  refine (same_num h_z1 h_z2 (rfl)).mono ?_
  rintro e w59 ⟨rfl, hB⟩
  replace hW := below_trans hW hB
  replace h_a := h_a.below hB
  clear hB h_z1 h_z2
  go_wp2_with fail
  refine (norm_any h_a.arg (by omega)).mono ?_
  rintro e w60 ⟨v_z3, rfl, h_z3, hB⟩
  replace hW := below_trans hW hB
  replace h_a := h_a.below hB
  clear hB
  go_wp2_with fail
  refine (listed_num h_z3).mono ?_
  rintro e w61 ⟨rfl, rfl⟩
  go_wp2_with fail
  refine (from_any _ nA hf).mono ?_
  rintro e w62 ⟨v_z4, rfl, h_z4, hB⟩
  replace hW := below_trans hW hB
  replace h_a := h_a.below hB
  clear hB h_z3
  go_wp2_with fail
  refine (norm_any h_a.arg (by omega)).mono ?_
  rintro e w63 ⟨v_z5, rfl, h_z5, hB⟩
  replace hW := below_trans hW hB
  replace h_z4 := h_z4.below hB
  clear hB h_a
  go_wp2_with fail
  refine (same_num h_z4 h_z5 (rfl)).mono ?_
  rintro e w64 ⟨rfl, hB⟩
  replace hW := below_trans hW hB
  clear hB h_z4 h_z5
  go_wp2
  go_ret
  exact ⟨rfl, hW⟩

set_option maxHeartbeats 1000000 in
theorem parts_big {w : World} {va : Value} {xs : List Int} {d N : Int} (ha : Reads .u32 w va xs) (la : xs.length ≤ 70368744177664) (hbig : 1048576 < tot [xs.length]) :
    Calls Try.prog 5 #[va, .int .u32 d, .int .u8 N] w fun e w' => e = .returned (.bool true) ∧ Below w.heap.size w w' := by
  obtain ⟨ao, ca, rfl, ha1, ha2, ha3⟩ := ha
  have hbey := fun (W : World) => beyond1 (w := W) (g := w.heap.size) (ao := ao) (ca := ca) la
  rw [decide_eq_true hbig] at hbey
  have Hbey := hide hbey
  clear hbey hbig
  go_enter Try.func5, Try.ntmps5
  go_wp2_with fail
  refine Calls.mono (Hbey.out _ (by simp)) ?_
  rintro e w1 ⟨rfl, rfl⟩
  go_wp2
  go_ret
  exact ⟨rfl, below_alloc _ _⟩

theorem wf_u8 {n : Int} (h : (Lit.int .u8 n).wf = true) : 0 ≤ n ∧ n ≤ 255 := by
  simpa [Lit.wf, IntKind.min, IntKind.max, IntKind.signed, IntKind.bits] using h
theorem wf_u32' {n : Int} (h : (Lit.int .u32 n).wf = true) : 0 ≤ n ∧ n ≤ 4294967295 := by
  simpa [Lit.wf, IntKind.min, IntKind.max, IntKind.signed, IntKind.bits] using h

theorem parts_walk {w : World} {va : Value} {xs : List Int} {d N : Int} (ha : Reads .u32 w va xs) (wd : (Lit.int .u32 d).wf = true) (wN : (Lit.int .u8 N).wf = true) (oa : Nt.Ok xs) (la : xs.length ≤ 70368744177664) :
    Calls Try.prog 5 #[va, .int .u32 d, .int .u8 N] w fun e w' => e = .returned (.bool true) ∧ Below w.heap.size w w' := by
  have hd := wf_u32' wd
  have hN := wf_u8 wN
  by_cases hbig : 1048576 < tot [xs.length]
  · exact parts_big ha la hbig
  by_cases hd0 : d = 0
  · by_cases hf : Nt.val xs < 18446744073709551616
    · exact parts_01 ha oa la hN.1 hN.2 (by omega) hbig hd0 hf
    · exact parts_00 ha oa la hN.1 hN.2 (by omega) hbig hd0 (by omega)
  have hp : 0 < d := by omega
  have hr := Int.emod_nonneg (Nt.val xs) (b := d) (by omega)
  by_cases hR : 0 < Nt.val xs % d
  · by_cases hf : Nt.val xs < 18446744073709551616
    · exact parts_21 ha oa la hN.1 hN.2 (by omega) hbig hp hR hf
    · exact parts_20 ha oa la hN.1 hN.2 (by omega) hbig hp hR (by omega)
  · by_cases hf : Nt.val xs < 18446744073709551616
    · exact parts_11 ha oa la hN.1 hN.2 (by omega) hbig hp (by omega) hf
    · exact parts_10 ha oa la hN.1 hN.2 (by omega) hbig hp (by omega) (by omega)

end Go.Proofs.Ytlfkfeedopgfjab
