/- NatForms -/
import Derived.Test.YtlfkfeedopgfjaaRefB
import Derived.Test.YtlfkfeedopgfjaaTwin
import Derived.Test.YtlfkfeedopgfjaaLives
import Derived.Test.YtlfkfeedopgfjaaNorm
import Derived.Test.YtlfkfeedopgfjaaBeyond
import Derived.Test.YtlfkfeedopgfjaaUint
namespace Go.Proofs.Ytlfkfeedopgfjaa
open Go.RowKit

theorem beyond_one {w : World} {g : Nat} {ao : Option Addr} {la ca : Nat} (ha : la ≤ 70368744177664) (h0 : w.cell? ⟨g, 0, none⟩ = some (.slice ao la ca)) :
    Calls Try.prog 9 #[.slice (some ⟨g, 0, none⟩) 1 1] w fun e w' => e = .returned (.bool (decide (1048576 < tot [la]))) ∧ w' = w := by
  refine beyond_any (ls := [la]) (by simp) (fun i => ?_) (fun i hi => ?_)
  · match i with
    | 0 => simpa using ha
    | i + 1 => simp
  · match i, hi with
    | 0, _ => exact ⟨_, _, h0⟩
theorem beyond_two {w : World} {g : Nat} {ao bo : Option Addr} {la ca lb cb : Nat} (ha : la ≤ 70368744177664) (hb : lb ≤ 70368744177664) (h0 : w.cell? ⟨g, 0, none⟩ = some (.slice ao la ca)) (h1 : w.cell? ⟨g, 1, none⟩ = some (.slice bo lb cb)) :
    Calls Try.prog 9 #[.slice (some ⟨g, 0, none⟩) 2 2] w fun e w' => e = .returned (.bool (decide (1048576 < tot [la, lb]))) ∧ w' = w := by
  refine beyond_any (ls := [la, lb]) (by simp) (fun i => ?_) (fun i hi => ?_)
  · match i with
    | 0 => simpa using ha
    | 1 => simpa using hb
    | i + 2 => simp
  · match i, hi with
    | 0, _ => exact ⟨_, _, h0⟩
    | 1, _ => exact ⟨_, _, h1⟩
theorem Twin.argOf {B : Nat} {w : World} {v : Value} {xs : List Int} {k : Nat} (h : Twin B w v xs) (ho : Nt.Ok xs) (hl : xs.length ≤ k) : Arg w v (Nt.val xs) k := ⟨xs, h.reads, ho, rfl, hl⟩

theorem len_told {w : World} {va : Value} {n : Int} {ka k : Nat} (ha : Arg w va n ka) (hka : ka ≤ 1099511627776) (h : IsLen n k) :
    Calls Try.prog 18 #[va] w fun e w' => e = .returned (.int .i64 k) ∧ w' = w := by
  refine (len_any ha hka).mono ?_
  rintro e w' ⟨m, rfl, hm, _, rfl⟩
  rw [isLen_unique hm h]
  exact ⟨rfl, rfl⟩
theorem len_has {xs : List Int} (ho : Nt.Ok xs) : ∃ k, IsLen (Nt.val xs) k ∧ k ≤ 32 * xs.length := by
  have hv := Nt.val_nonneg ho
  have hb := Nt.val_lt ho
  rw [← p2_32] at hb
  have : ∀ m : Nat, ∀ x : Int, 0 ≤ x → x < p2 m → ∃ k, IsLen x k ∧ k ≤ m := by
    intro m
    induction m with
    | zero => intro x h0 h1; exact ⟨0, ⟨h1, fun h => by omega⟩, Nat.le_refl _⟩
    | succ m ih =>
      intro x h0 h1
      by_cases h : x < p2 m
      · obtain ⟨k, hk, hkm⟩ := ih x h0 h; exact ⟨k, hk, by omega⟩
      · exact ⟨m + 1, ⟨h1, fun _ => by rw [Nat.add_sub_cancel]; omega⟩, Nat.le_refl _⟩
  exact this _ _ hv hb

set_option maxRecDepth 100000 in
set_option maxHeartbeats 4000000 in
theorem forms_0 {w : World} {va : Value} {xs : List Int} {X : Int} (ha : Reads .u32 w va xs) (oa : Nt.Ok xs) (la : xs.length ≤ 70368744177664) (hsml : ¬ 1048576 < tot [xs.length]) (hX0 : 0 ≤ X) (hX1 : X < 18446744073709551616) (hf : 18446744073709551616 ≤ Nt.val xs) :
    Calls Try.prog 3 #[va, .int .u64 X] w fun e w' => e = .returned (.bool true) ∧ Below w.heap.size w w' := by
  obtain ⟨ao, ca, rfl, ha1, ha2, ha3⟩ := ha
  have hbey := fun (W : World) => beyond_one (w := W) (g := w.heap.size) (ao := ao) (ca := ca) la
  rw [decide_eq_false hsml] at hbey
  have Hbey := hide hbey
  simp only [tot] at hsml
  have hlx : xs.length ≤ 1048576 := by omega
  have h_r : Reads .u32 w (.slice ao xs.length ca) xs := ⟨ao, ca, rfl, ha1, ha2, ha3⟩
  have h_a : Arg w (.slice ao xs.length ca) (Nt.val xs) 1048576 := ⟨xs, h_r, oa, rfl, hlx⟩
  have nA := h_a.nonneg
  clear hbey hsml ha1 ha2 ha3
  obtain ⟨k, hk, hk2⟩ := len_has oa
  have Hk := hide hk
  clear hk
  go_enter Try.func3, Try.ntmps3
  go_wp2_with fail
  refine Calls.mono (Hbey.out _ (by simp)) ?_
  rintro e w1 ⟨rfl, rfl⟩
  clear Hbey
  have hW : Below w.heap.size w (w.alloc (.cells #[.slice ao xs.length ca] 23)) := below_alloc _ _
  replace h_a := h_a.below hW
  replace h_r := h_r.below hW
  go_wp2_with fail
  refine (twin_any h_r (by omega)).mono ?_
  rintro e w2 ⟨v_t, rfl, h_t, hB⟩
  replace hW := below_trans hW hB
  replace h_a := h_a.below hB
  replace h_r := h_r.below hB
  clear hB
  go_wp2_with fail
  refine (uint_no (h_t.argOf oa hlx) hf).mono ?_
  rintro e w3 ⟨rfl, rfl⟩
  go_wp2_with fail
  refine (ruint_no h_a (by omega) hf).mono ?_
  rintro e w4 ⟨rfl, hB⟩
  replace hW := below_trans hW hB
  replace h_a := h_a.below hB
  replace h_r := h_r.below hB
  replace h_t := h_t.below hB
  clear hB
  go_wp2_with fail
  refine (norm_any (h_t.argOf oa hlx) (by omega)).mono ?_
  rintro e w5 ⟨v_n, rfl, h_n, hB⟩
  replace hW := below_trans hW hB
  replace h_a := h_a.below hB
  replace h_r := h_r.below hB
  replace h_t := h_t.below hB
  clear hB
  go_wp2_with fail
  refine (rnorm_any h_a (by omega)).mono ?_
  rintro e w6 ⟨v_m, rfl, h_m, hB⟩
  replace hW := below_trans hW hB
  replace h_a := h_a.below hB
  replace h_r := h_r.below hB
  replace h_t := h_t.below hB
  replace h_n := h_n.below hB
  clear hB
  go_wp2_with fail
  refine (same_num h_n h_m (rfl)).mono ?_
  rintro e w7 ⟨rfl, hB⟩
  replace hW := below_trans hW hB
  replace h_a := h_a.below hB
  replace h_r := h_r.below hB
  replace h_t := h_t.below hB
  clear hB h_n h_m
  go_wp2_with fail
  refine (from_any X hX0 hX1).mono ?_
  rintro e w8 ⟨v_f, rfl, h_f, hB⟩
  replace hW := below_trans hW hB
  replace h_a := h_a.below hB
  replace h_r := h_r.below hB
  replace h_t := h_t.below hB
  clear hB
  go_wp2_with fail
  refine (rfrom_any X hX0 hX1).mono ?_
  rintro e w9 ⟨v_g, rfl, h_g, hB⟩
  replace hW := below_trans hW hB
  replace h_a := h_a.below hB
  replace h_r := h_r.below hB
  replace h_t := h_t.below hB
  replace h_f := h_f.below hB
  clear hB
  go_wp2_with fail
  refine (same_num h_f h_g (rfl)).mono ?_
  rintro e w10 ⟨rfl, hB⟩
  replace hW := below_trans hW hB
  replace h_a := h_a.below hB
  replace h_r := h_r.below hB
  replace h_t := h_t.below hB
  clear hB h_f h_g
  go_wp2_with fail
  refine (len_told (h_t.argOf oa hlx) (by omega) Hk.out).mono ?_
  rintro e w11 ⟨rfl, rfl⟩
  go_wp2_with fail
  refine (rlen_any h_a (by omega) Hk.out).mono ?_
  rintro e w12 ⟨rfl, hB⟩
  replace hW := below_trans hW hB
  replace h_r := h_r.below hB
  replace h_t := h_t.below hB
  clear hB h_a
  go_wp2_with fail
  refine (left_any h_t h_r).mono ?_
  rintro e w13 ⟨rfl, hB⟩
  replace hW := below_trans hW hB
  clear hB h_r h_t
  go_wp2
  go_ret
  exact ⟨rfl, hW⟩

set_option maxRecDepth 100000 in
set_option maxHeartbeats 4000000 in
theorem forms_1 {w : World} {va : Value} {xs : List Int} {X : Int} (ha : Reads .u32 w va xs) (oa : Nt.Ok xs) (la : xs.length ≤ 70368744177664) (hsml : ¬ 1048576 < tot [xs.length]) (hX0 : 0 ≤ X) (hX1 : X < 18446744073709551616) (hf : Nt.val xs < 18446744073709551616) :
    Calls Try.prog 3 #[va, .int .u64 X] w fun e w' => e = .returned (.bool true) ∧ Below w.heap.size w w' := by
  obtain ⟨ao, ca, rfl, ha1, ha2, ha3⟩ := ha
  have hbey := fun (W : World) => beyond_one (w := W) (g := w.heap.size) (ao := ao) (ca := ca) la
  rw [decide_eq_false hsml] at hbey
  have Hbey := hide hbey
  simp only [tot] at hsml
  have hlx : xs.length ≤ 1048576 := by omega
  have h_r : Reads .u32 w (.slice ao xs.length ca) xs := ⟨ao, ca, rfl, ha1, ha2, ha3⟩
  have h_a : Arg w (.slice ao xs.length ca) (Nt.val xs) 1048576 := ⟨xs, h_r, oa, rfl, hlx⟩
  have nA := h_a.nonneg
  clear hbey hsml ha1 ha2 ha3
  obtain ⟨k, hk, hk2⟩ := len_has oa
  have Hk := hide hk
  clear hk
  go_enter Try.func3, Try.ntmps3
  go_wp2_with fail
  refine Calls.mono (Hbey.out _ (by simp)) ?_
  rintro e w1 ⟨rfl, rfl⟩
  clear Hbey
  have hW : Below w.heap.size w (w.alloc (.cells #[.slice ao xs.length ca] 23)) := below_alloc _ _
  replace h_a := h_a.below hW
  replace h_r := h_r.below hW
  go_wp2_with fail
  refine (twin_any h_r (by omega)).mono ?_
  rintro e w2 ⟨v_t, rfl, h_t, hB⟩
  replace hW := below_trans hW hB
  replace h_a := h_a.below hB
  replace h_r := h_r.below hB
  clear hB
  go_wp2_with fail
  refine (uint_yes (h_t.argOf oa hlx) hf).mono ?_
  rintro e w3 ⟨rfl, rfl⟩
  go_wp2_with fail
  refine (ruint_yes h_a (by omega) hf).mono ?_
  rintro e w4 ⟨rfl, hB⟩
  replace hW := below_trans hW hB
  replace h_a := h_a.below hB
  replace h_r := h_r.below hB
  replace h_t := h_t.below hB
  clear hB
  go_wp2_with fail
  refine (norm_any (h_t.argOf oa hlx) (by omega)).mono ?_
  rintro e w5 ⟨v_n, rfl, h_n, hB⟩
  replace hW := below_trans hW hB
  replace h_a := h_a.below hB
  replace h_r := h_r.below hB
  replace h_t := h_t.below hB
  clear hB
  go_wp2_with fail
  refine (rnorm_any h_a (by omega)).mono ?_
  rintro e w6 ⟨v_m, rfl, h_m, hB⟩
  replace hW := below_trans hW hB
  replace h_a := h_a.below hB
  replace h_r := h_r.below hB
  replace h_t := h_t.below hB
  replace h_n := h_n.below hB
  clear hB
  go_wp2_with fail
  refine (same_num h_n h_m (rfl)).mono ?_
  rintro e w7 ⟨rfl, hB⟩
  replace hW := below_trans hW hB
  replace h_a := h_a.below hB
  replace h_r := h_r.below hB
  replace h_t := h_t.below hB
  clear hB h_n h_m
  go_wp2_with fail
  refine (from_any X hX0 hX1).mono ?_
  rintro e w8 ⟨v_f, rfl, h_f, hB⟩
  replace hW := below_trans hW hB
  replace h_a := h_a.below hB
  replace h_r := h_r.below hB
  replace h_t := h_t.below hB
  clear hB
  go_wp2_with fail
  refine (rfrom_any X hX0 hX1).mono ?_
  rintro e w9 ⟨v_g, rfl, h_g, hB⟩
  replace hW := below_trans hW hB
  replace h_a := h_a.below hB
  replace h_r := h_r.below hB
  replace h_t := h_t.below hB
  replace h_f := h_f.below hB
  clear hB
  go_wp2_with fail
  refine (same_num h_f h_g (rfl)).mono ?_
  rintro e w10 ⟨rfl, hB⟩
  replace hW := below_trans hW hB
  replace h_a := h_a.below hB
  replace h_r := h_r.below hB
  replace h_t := h_t.below hB
  clear hB h_f h_g
  go_wp2_with fail
  refine (len_told (h_t.argOf oa hlx) (by omega) Hk.out).mono ?_
  rintro e w11 ⟨rfl, rfl⟩
  go_wp2_with fail
  refine (rlen_any h_a (by omega) Hk.out).mono ?_
  rintro e w12 ⟨rfl, hB⟩
  replace hW := below_trans hW hB
  replace h_r := h_r.below hB
  replace h_t := h_t.below hB
  clear hB h_a
  go_wp2_with fail
  refine (left_any h_t h_r).mono ?_
  rintro e w13 ⟨rfl, hB⟩
  replace hW := below_trans hW hB
  clear hB h_r h_t
  go_wp2
  go_ret
  exact ⟨rfl, hW⟩

set_option maxRecDepth 100000 in
set_option maxHeartbeats 1000000 in
theorem forms_big {w : World} {va : Value} {xs : List Int} {X : Int} (ha : Reads .u32 w va xs) (la : xs.length ≤ 70368744177664) (hbig : 1048576 < tot [xs.length]) :
    Calls Try.prog 3 #[va, .int .u64 X] w fun e w' => e = .returned (.bool true) ∧ Below w.heap.size w w' := by
  obtain ⟨ao, ca, rfl, ha1, ha2, ha3⟩ := ha
  have hbey := fun (W : World) => beyond_one (w := W) (g := w.heap.size) (ao := ao) (ca := ca) la
  rw [decide_eq_true hbig] at hbey
  have Hbey := hide hbey
  clear hbey hbig
  go_enter Try.func3, Try.ntmps3
  go_wp2_with fail
  refine Calls.mono (Hbey.out _ (by simp)) ?_
  rintro e w1 ⟨rfl, rfl⟩
  go_wp2
  go_ret
  exact ⟨rfl, below_alloc _ _⟩

theorem wf_u64 {n : Int} (h : (Lit.int .u64 n).wf = true) : 0 ≤ n ∧ n < 18446744073709551616 := by
  have : 0 ≤ n ∧ n ≤ 18446744073709551615 := by simpa [Lit.wf, IntKind.min, IntKind.max, IntKind.signed, IntKind.bits] using h
  omega
theorem forms_walk {w : World} {va : Value} {xs : List Int} {X : Int} (ha : Reads .u32 w va xs) (wX : (Lit.int .u64 X).wf = true) (oa : Nt.Ok xs) (la : xs.length ≤ 70368744177664) :
    Calls Try.prog 3 #[va, .int .u64 X] w fun e w' => e = .returned (.bool true) ∧ Below w.heap.size w w' := by
  have hX := wf_u64 wX
  by_cases hbig : 1048576 < tot [xs.length]
  · exact forms_big ha la hbig
  by_cases hf : Nt.val xs < 18446744073709551616
  · exact forms_1 ha oa la hbig hX.1 hX.2 hf
  · exact forms_0 ha oa la hbig hX.1 hX.2 (by omega)

end Go.Proofs.Ytlfkfeedopgfjaa
