/- cruciblelaw07.lives -/
import Derived.Test.YtigehipclkoecaaGreatDoorDCmpT
import Derived.Test.YtigehipclkoecaaGreatDoorDDig5
import Derived.Test.YtigehipclkoecaaGreatDoorIeeeP
namespace Go.Proofs.YtigehipclkoecaaGreatDoor
open Go.RowKit
set_option linter.unusedVariables false

theorem half_dv : DV 1024 (-24) 31744 5 (-1) 14336 := by
  have a : mid2 1024 (-24) 14336 = 2049 * 8192 := by rw [mid2_at (by decide) (by decide)]; decide
  have b : mid2 1024 (-24) (14336 - 1) = 4095 * 4096 := by rw [mid2_at (by decide) (by decide)]; decide
  have c : p2 (-(-24 : Int)).toNat = 16777216 := by decide
  have d : tn (-(-1 : Int)).toNat = 10 := by decide
  have e : tn (-1 : Int).toNat = 1 := by decide
  unfold DV
  rw [c, d, e]
  refine ⟨by omega, by omega, fun _ => ?_, fun _ => ?_⟩
  · rw [a]; omega
  · rw [b]; omega

set_option maxRecDepth 100000 in
set_option maxHeartbeats 4000000 in
theorem inDec_half {w : World} : Calls Tryz.prog 41 #[.int .u64 1, .int .i64 (-1)] w fun e w' => e = .returned (.tuple #[.string ⟨#[53]⟩, .int .i64 0]) ∧ Below w.heap.size w w' := by
  have hz : ((⟨#[53]⟩ : ByteArray)).size = 1 := rfl
  go_enter Tryz.func41, Tryz.ntmps41
  go_wp2_with fail
  refine (pow_ok (b := 5) (N := 1) (k := 3) (by omega) (by omega) ⟨by decide, fun _ => by decide⟩ (by omega) (.inr (by omega))).mono ?_
  rintro x w1 ⟨v1, rfl, h1, b1⟩
  have H1 := hide h1.arg
  clear h1
  go_wp2_with fail
  with_reducible refine (from_any 1 (by omega) (by omega)).mono ?_
  rintro x w2 ⟨v2, rfl, h2, b2⟩
  have H2 := hide h2.arg
  have P1 := hide (H1.out.below b2)
  have K := below_trans b1 b2
  clear h2 b1 b2
  go_wp2_with fail
  with_reducible refine (mul_any H2.out P1.out (by omega) (by omega)).mono ?_
  rintro x w3 ⟨v3, rfl, h3, b3⟩
  have H3 := hide (show Arg w3 v3 5 _ from h3.arg)
  have K3 := below_trans K b3
  clear h3 b3 K
  go_wp2_with fail
  refine (digits_e5 H3.out (by omega)).mono ?_
  rintro x w4 ⟨rfl, b4⟩
  have K4 := below_trans K3 b4
  clear b4 K3
  go_wp2
  go_ret2
  exact ⟨rfl, K4⟩

theorem part_half {a ok : Bool} {m E : Int} (h : PartIs 1024 (-24) 31744 14336 false a m E ok) : a = false ∧ m = 1 ∧ E = -1 ∧ ok = true := by
  obtain ⟨h1, h2, h3, h4⟩ := h.2 (by decide)
  obtain ⟨h5, k, hk, h6, h7⟩ := h4 (by decide)
  have e1 : mst 1024 14336 = 1 * p2 10 := by decide
  rw [e1] at h6
  obtain ⟨rfl, rfl⟩ := odd_unique (by decide) h5 h6
  refine ⟨h2, rfl, ?_, h1⟩
  rw [h7]
  decide

set_option maxRecDepth 100000 in
set_option maxHeartbeats 4000000 in
theorem exact_half {w : World} (T : Lays w) (U : Brn w) : Calls Tryz.prog 31 #[.int .u16 14336] w fun e w' => e = .returned (.tuple #[.agg #[.bool false, .string ⟨#[53]⟩, .int .i64 0], .bool true]) ∧ Below w.heap.size w w' := by
  have K0 : Below w.heap.size w (w.alloc (.cells #[.bool false, .string ⟨#[]⟩, .int .i64 0] 23)) := al_one _ _
  have C := cell3_new w (.bool false) (.string ⟨#[]⟩) (.int .i64 0) 23
  have F0 : ∀ i, (w.alloc (.cells #[.bool false, .string ⟨#[]⟩, .int .i64 0] 23)).frozen? ⟨w.heap.size, i, none⟩ = false := fun i => World.frozen?_alloc_at _ _ _ _ rfl
  go_enter Tryz.func31, Tryz.ntmps31
  go_wp2_with fail
  with_reducible refine (parts_16 (T.below K0) (U.below K0) 14336 14336 false (by omega) (by omega) (by decide) (by decide)).mono ?_
  rintro x w1 ⟨a, m, E, ok, rfl, hP, b1⟩
  obtain ⟨rfl, rfl, rfl, rfl⟩ := part_half hP
  clear hP
  go_wp2_with fail
  refine inDec_half.mono ?_
  rintro x w2 ⟨rfl, b2⟩
  have D := (C.below b1).below b2
  have b12 := below_trans b1 b2
  have f0 := (b12.frozen (p := ⟨w.heap.size, 0, none⟩) (by simp)).trans (F0 0)
  have f1 := (b12.frozen (p := ⟨w.heap.size, 1, none⟩) (by simp)).trans (F0 1)
  have f2 := (b12.frozen (p := ⟨w.heap.size, 2, none⟩) (by simp)).trans (F0 2)
  have c0 := D.c0; have c1 := D.c1; have c2 := D.c2
  have K2 := below_trans K0 b12
  clear b1 b2 b12 D C F0 K0
  go_wp2
  (try simp only [Exit.inBlock, Exit.then])
  refine bodyPost_ret (v := .tuple #[.agg #[.bool false, .string ⟨#[53]⟩, .int .i64 0], .bool true]) (by rw [results_cell_tmp rfl]; go_simp) rfl ?_
  exact ⟨rfl, ((K2.setCell (p := ⟨w.heap.size, 0, none⟩) (Nat.le_refl _) _).setCell (p := ⟨w.heap.size, 1, none⟩) (Nat.le_refl _) _).setCell (p := ⟨w.heap.size, 2, none⟩) (Nat.le_refl _) _⟩

theorem dg_5 : dg [53] = 5 := by decide
theorem dg_1 : dg [49] = 1 := by decide
theorem dig_one {x : Int} (h : 48 ≤ x ∧ x ≤ 57) : Dg [x] := fun y hy => by simp at hy; subst hy; exact h
set_option maxRecDepth 100000 in
set_option maxHeartbeats 4000000 in
theorem lives7 {w : World} (T : Lays w) (U : Brn w) : Calls Tryz.prog 10 #[] w fun e w' => e = .returned (.bool true) ∧ Below w.heap.size w w' := by
  have D5 := dig_one (x := 53) (by decide)
  have D1 := dig_one (x := 49) (by decide)
  have H1 := hide (dread_h (w := w) (es := [53]) (s := ⟨#[53]⟩) (N := 1) (ng := false) (P := 0) T D5.byt rfl rfl (by omega) (by omega) (by omega))
  go_enter Tryz.func10, Tryz.ntmps10
  go_wp2_with fail
  refine H1.out.mono ?_
  clear H1
  rintro x w1 ⟨b1, ⟨h, rfl⟩ | ⟨h, r, rfl, hv⟩⟩
  · exact absurd D5 h
  have hr : r = 14336 := by rw [dg_5] at hv; exact dv_first wide_h hv half_dv
  subst hr
  clear hv h
  go_wp2_with fail
  refine (exact_half (T.below b1) (U.below b1)).mono ?_
  rintro x w2 ⟨rfl, b2⟩
  have K := below_trans b1 b2
  clear b1 b2
  go_wp2_with fail
  refine (dcmp_any (es := [49]) (es' := [53]) (N := 1) (N' := 1) D1.byt rfl rfl (by omega) (by omega) (by omega) D5.byt rfl rfl (by omega) (by omega) (by omega)).mono ?_
  rintro x w3 ⟨b3, ⟨h, rfl⟩ | ⟨h1, h2, rfl⟩⟩
  · exact absurd ⟨D1, D5⟩ h
  have hc : dcmp (sgv false (dg [49])) (0 - (1 : Nat)) (sgv false (dg [53])) (0 - (1 : Nat)) = -1 := by decide
  rw [hc]
  have C := (cell3_new w2 (.bool false) (.string ⟨#[53]⟩) (.int .i64 0) 23).below b3
  have c0 := C.c0; have c1 := C.c1; have c2 := C.c2
  have K3 := below_trans (below_trans K (al_one _ _)) b3
  clear b3 K h1 h2 C
  go_wp2
  go_ret
  exact ⟨rfl, K3⟩

end Go.Proofs.YtigehipclkoecaaGreatDoor
