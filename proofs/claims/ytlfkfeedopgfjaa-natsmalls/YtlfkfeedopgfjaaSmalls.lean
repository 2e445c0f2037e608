/- NatSmalls -/
import Derived.Test.YtlfkfeedopgfjaaForms
import Derived.Test.YtlfkfeedopgfjaaRefC
import Derived.Test.YtlfkfeedopgfjaaSmall
namespace Go.Proofs.Ytlfkfeedopgfjaa
open Go.RowKit

theorem num_nought (B : Nat) (w : World) : Num B w (.slice none 0 0) 0 0 := ⟨[], ⟨none, rfl, by unfold maxLen; simp, fun h => absurd h (by simp)⟩, Nt.canon_nil, rfl, Nat.le_refl _⟩
theorem small_told {w : World} {va : Value} {n d Q R : Int} {ka : Nat} (ha : Arg w va n ka) (hka : ka ≤ 1099511627776) (hd0 : 0 < d) (hd1 : d < 4294967296) (hQ : n / d = Q) (hR : n % d = R) :
    Calls Try.prog 33 #[va, .int .u32 d] w fun e w' => ∃ v, e = .returned (.tuple #[v, .int .u32 R, .bool true]) ∧ Num w.heap.size w' v Q ka ∧ Below w.heap.size w w' := by
  subst hQ hR
  exact small_yes ha hka hd0 hd1
theorem rsmall_told {w : World} {va : Value} {n d Q R : Int} {ka : Nat} (ha : Arg w va n ka) (hka : ka ≤ 1099511627776) (hd0 : 0 < d) (hd1 : d < 4294967296) (hQ : n / d = Q) (hR : n % d = R) :
    Calls Try.prog 34 #[va, .int .u32 d] w fun e w' => ∃ v, e = .returned (.tuple #[v, .int .u32 R, .bool true]) ∧ Num w.heap.size w' v Q ka ∧ Below w.heap.size w w' := by
  subst hQ hR
  exact rsmall_yes ha hka hd0 hd1

set_option maxRecDepth 100000 in
set_option maxHeartbeats 4000000 in
theorem smalls_0 {w : World} {va : Value} {xs : List Int}  (ha : Reads .u32 w va xs) (oa : Nt.Ok xs) (la : xs.length ≤ 70368744177664) (hsml : ¬ 1048576 < tot [xs.length])  :
    Calls Try.prog 7 #[va, .int .u32 0] w fun e w' => e = .returned (.bool true) ∧ Below w.heap.size w w' := by
  obtain ⟨ao, ca, rfl, ha1, ha2, ha3⟩ := ha
  have hbey := fun (W : World) => beyond_one (w := W) (g := w.heap.size) (ao := ao) (ca := ca) la
  rw [decide_eq_false hsml] at hbey
  have Hbey := hide hbey
  simp only [tot] at hsml
  have hlx : xs.length ≤ 1048576 := by omega
  have h_r : Reads .u32 w (.slice ao xs.length ca) xs := ⟨ao, ca, rfl, ha1, ha2, ha3⟩
  have h_a : Arg w (.slice ao xs.length ca) (Nt.val xs) 1048576 := ⟨xs, h_r, oa, rfl, hlx⟩
  have nA := h_a.nonneg
  clear hbey hsml ha1 ha2 ha3
  go_enter Try.func7, Try.ntmps7
  go_wp2_with fail
  refine Calls.mono (Hbey.out _ (by simp)) ?_
  rintro e w1 ⟨rfl, rfl⟩
  clear Hbey
  have hW : Below w.heap.size w (w.alloc (.cells #[.slice ao xs.length ca] 23)) := below_alloc _ _
  replace h_a := h_a.below hW
  replace h_r := h_r.below hW
  go_wp2_with fail
  refine (twin_any h_r (by omega)).mono ?_
  rintro e w2 ⟨v_t, rfl, h_t, hB⟩
  replace hW := below_trans hW hB
  replace h_r := h_r.below hB
  clear hB h_a
  go_wp2_with fail
  refine (small_no).mono ?_
  rintro e w3 ⟨rfl, rfl⟩
  go_wp2_with fail
  refine (rsmall_no).mono ?_
  rintro e w4 ⟨rfl, rfl⟩
  go_wp2_with fail
  refine (same_num (num_nought 0 _) (num_nought 0 _) rfl).mono ?_
  rintro e w5 ⟨rfl, hB⟩
  replace hW := below_trans hW hB
  replace h_r := h_r.below hB
  replace h_t := h_t.below hB
  clear hB
  go_wp2_with fail
  refine (left_any h_t h_r).mono ?_
  rintro e w6 ⟨rfl, hB⟩
  replace hW := below_trans hW hB
  clear hB h_r h_t
  go_wp2
  go_ret
  exact ⟨rfl, hW⟩

set_option maxRecDepth 100000 in
set_option maxHeartbeats 4000000 in
theorem smalls_1 {w : World} {va : Value} {xs : List Int} {d : Int} (ha : Reads .u32 w va xs) (oa : Nt.Ok xs) (la : xs.length ≤ 70368744177664) (hsml : ¬ 1048576 < tot [xs.length]) (hd0 : 0 < d) (hd1 : d < 4294967296) :
    Calls Try.prog 7 #[va, .int .u32 d] w fun e w' => e = .returned (.bool true) ∧ Below w.heap.size w w' := by
  obtain ⟨ao, ca, rfl, ha1, ha2, ha3⟩ := ha
  have hbey := fun (W : World) => beyond_one (w := W) (g := w.heap.size) (ao := ao) (ca := ca) la
  rw [decide_eq_false hsml] at hbey
  have Hbey := hide hbey
  simp only [tot] at hsml
  have hlx : xs.length ≤ 1048576 := by omega
  have h_r : Reads .u32 w (.slice ao xs.length ca) xs := ⟨ao, ca, rfl, ha1, ha2, ha3⟩
  have h_a : Arg w (.slice ao xs.length ca) (Nt.val xs) 1048576 := ⟨xs, h_r, oa, rfl, hlx⟩
  have nA := h_a.nonneg
  clear hbey hsml ha1 ha2 ha3
  obtain ⟨Q, hQ⟩ : ∃ Q, Nt.val xs / d = Q := ⟨_, rfl⟩
  obtain ⟨R, hR⟩ : ∃ R, Nt.val xs % d = R := ⟨_, rfl⟩
  have HQ := hide hQ
  have HR := hide hR
  clear hQ hR
  go_enter Try.func7, Try.ntmps7
  go_wp2_with fail
  refine Calls.mono (Hbey.out _ (by simp)) ?_
  rintro e w1 ⟨rfl, rfl⟩
  clear Hbey
  have hW : Below w.heap.size w (w.alloc (.cells #[.slice ao xs.length ca] 23)) := below_alloc _ _
  replace h_a := h_a.below hW
  replace h_r := h_r.below hW
  go_wp2_with fail
  refine (twin_any h_r (by omega)).mono ?_
  rintro e w2 ⟨v_t, rfl, h_t, hB⟩
  replace hW := below_trans hW hB
  replace h_a := h_a.below hB
  replace h_r := h_r.below hB
  clear hB
  go_wp2_with fail
  refine (small_told (h_t.argOf oa hlx) (by omega) hd0 hd1 HQ.out HR.out).mono ?_
  rintro e w3 ⟨v_q, rfl, h_q, hB⟩
  replace hW := below_trans hW hB
  replace h_a := h_a.below hB
  replace h_r := h_r.below hB
  replace h_t := h_t.below hB
  clear hB
  go_wp2_with fail
  refine (rsmall_told h_a (by omega) hd0 hd1 HQ.out HR.out).mono ?_
  rintro e w4 ⟨v_p, rfl, h_p, hB⟩
  replace hW := below_trans hW hB
  replace h_r := h_r.below hB
  replace h_t := h_t.below hB
  replace h_q := h_q.below hB
  clear hB h_a
  go_wp2_with fail
  refine (same_num h_q h_p (rfl)).mono ?_
  rintro e w5 ⟨rfl, hB⟩
  replace hW := below_trans hW hB
  replace h_r := h_r.below hB
  replace h_t := h_t.below hB
  clear hB h_q h_p
  go_wp2_with fail
  refine (left_any h_t h_r).mono ?_
  rintro e w6 ⟨rfl, hB⟩
  replace hW := below_trans hW hB
  clear hB h_r h_t
  go_wp2
  go_ret
  exact ⟨rfl, hW⟩

set_option maxRecDepth 100000 in
set_option maxHeartbeats 1000000 in
theorem smalls_big {w : World} {va : Value} {xs : List Int} {d : Int} (ha : Reads .u32 w va xs) (la : xs.length ≤ 70368744177664) (hbig : 1048576 < tot [xs.length]) :
    Calls Try.prog 7 #[va, .int .u32 d] w fun e w' => e = .returned (.bool true) ∧ Below w.heap.size w w' := by
  obtain ⟨ao, ca, rfl, ha1, ha2, ha3⟩ := ha
  have hbey := fun (W : World) => beyond_one (w := W) (g := w.heap.size) (ao := ao) (ca := ca) la
  rw [decide_eq_true hbig] at hbey
  have Hbey := hide hbey
  clear hbey hbig
  go_enter Try.func7, Try.ntmps7
  go_wp2_with fail
  refine Calls.mono (Hbey.out _ (by simp)) ?_
  rintro e w1 ⟨rfl, rfl⟩
  go_wp2
  go_ret
  exact ⟨rfl, below_alloc _ _⟩

theorem wf_limb {n : Int} (h : (Lit.int .u32 n).wf = true) : 0 ≤ n ∧ n < 4294967296 := by
  have : 0 ≤ n ∧ n ≤ 4294967295 := by simpa [Lit.wf, IntKind.min, IntKind.max, IntKind.signed, IntKind.bits] using h
  omega
theorem smalls_walk {w : World} {va : Value} {xs : List Int} {d : Int} (ha : Reads .u32 w va xs) (wd : (Lit.int .u32 d).wf = true) (oa : Nt.Ok xs) (la : xs.length ≤ 70368744177664) :
    Calls Try.prog 7 #[va, .int .u32 d] w fun e w' => e = .returned (.bool true) ∧ Below w.heap.size w w' := by
  have hd := wf_limb wd
  by_cases hbig : 1048576 < tot [xs.length]
  · exact smalls_big ha la hbig
  by_cases h0 : d = 0
  · subst h0
    exact smalls_0 ha oa la hbig
  · exact smalls_1 ha oa la hbig (by omega) hd.2

end Go.Proofs.Ytlfkfeedopgfjaa
