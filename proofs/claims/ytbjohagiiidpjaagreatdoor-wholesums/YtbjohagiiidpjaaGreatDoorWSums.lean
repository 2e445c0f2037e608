/- WholeSums: the walk -/
import Derived.Test.YtbjohagiiidpjaaGreatDoorWLives
import Derived.Test.YtbjohagiiidpjaaGreatDoorWRef2
namespace Go.Proofs.YtbjohagiiidpjaaGreatDoor
open Go.RowKit

theorem beyond_w2 {w : World} {g : Nat} {a0 a1 : Option Addr} {l0 c0 l1 c1 : Nat} (hg : g < w.heap.size) (j0 : l0 ≤ 70368744177664) (j1 : l1 ≤ 70368744177664) (h0 : w.cell? ⟨g, 1, none⟩ = some (.slice a0 l0 c0)) (h1 : w.cell? ⟨g, 3, none⟩ = some (.slice a1 l1 c1)) :
    Calls Tryz.prog 8 #[.slice (some ⟨g, 0, none⟩) 2 2] w fun e w' => e = .returned (.bool (decide (1048576 < 1 + l0 ∨ 1048576 < 1 + l1))) ∧ Below w.heap.size w w' := by
  refine (wbeyond_any (ls := [l0, l1]) (by simp) (fun i => ?_) hg (fun i hi => ?_)).mono ?_
  · match i with
    | 0 => simpa using j0
    | 1 => simpa using j1
    | i + 2 => simp
  · match i, hi with
    | 0, _ => exact ⟨_, _, h0⟩
    | 1, _ => exact ⟨_, _, h1⟩
  · rintro e w' ⟨rfl, hb⟩
    refine ⟨?_, hb⟩
    congr 2
    apply decide_eq_decide.2
    constructor
    · rintro ⟨i, hi, h⟩
      match i, hi, h with
      | 0, _, h => exact Or.inl h
      | 1, _, h => exact Or.inr (h)
    · intro h
      rcases h with h | h
      · exact ⟨0, by simp, h⟩
      · exact ⟨1, by simp, h⟩

set_option maxRecDepth 100000 in
set_option maxHeartbeats 16000000 in
theorem wsums_walk {w : World} {ng_x : Bool} {v_x : Value} {zs_x : List Int} {ng_y : Bool} {v_y : Value} {zs_y : List Int}
    (r_x : Reads .u32 w v_x zs_x) (o_x : Nt.Ok zs_x) (j_x : zs_x.length ≤ 70368744177664) (r_y : Reads .u32 w v_y zs_y) (o_y : Nt.Ok zs_y) (j_y : zs_y.length ≤ 70368744177664) :
    Calls Tryz.prog 4 #[.agg #[.bool ng_x, v_x], .agg #[.bool ng_y, v_y]] w fun e w' => e = .returned (.bool true) ∧ Below w.heap.size w w' := by
  obtain ⟨ao_x, c_x, rfl, ha1_x, ha2_x, ha3_x⟩ := r_x
  obtain ⟨ao_y, c_y, rfl, ha1_y, ha2_y, ha3_y⟩ := r_y
  have R0_x : Reads .u32 w (.slice ao_x zs_x.length c_x) zs_x := ⟨ao_x, c_x, rfl, ha1_x, ha2_x, ha3_x⟩
  have HR_x := hide R0_x
  clear R0_x
  have R0_y : Reads .u32 w (.slice ao_y zs_y.length c_y) zs_y := ⟨ao_y, c_y, rfl, ha1_y, ha2_y, ha3_y⟩
  have HR_y := hide R0_y
  clear R0_y
  have KB : Below w.heap.size w (((w.alloc (.cells #[.bool ng_x, .slice ao_x zs_x.length c_x] 25)).alloc (.cells #[.bool ng_y, .slice ao_y zs_y.length c_y] 25)).alloc (.cells #[.bool ng_x, .slice ao_x zs_x.length c_x, .bool ng_y, .slice ao_y zs_y.length c_y] 25)) := (below_trans (below_trans (bel_alloc _ _) (bel_alloc _ _)) (bel_alloc _ _))
  have z1 : (w.alloc (.cells #[.bool ng_x, .slice ao_x zs_x.length c_x] 25)).heap.size = w.heap.size + 1 := by simp
  have z2 : ((w.alloc (.cells #[.bool ng_x, .slice ao_x zs_x.length c_x] 25)).alloc (.cells #[.bool ng_y, .slice ao_y zs_y.length c_y] 25)).heap.size = w.heap.size + 2 := by simp
  have C_x := ((cell2_new w (.bool ng_x) (.slice ao_x zs_x.length c_x) 25).alloc (.cells #[.bool ng_y, .slice ao_y zs_y.length c_y] 25)).alloc (.cells #[.bool ng_x, .slice ao_x zs_x.length c_x, .bool ng_y, .slice ao_y zs_y.length c_y] 25)
  have C_y := (cell2_new (w.alloc (.cells #[.bool ng_x, .slice ao_x zs_x.length c_x] 25)) (.bool ng_y) (.slice ao_y zs_y.length c_y) 25).alloc (.cells #[.bool ng_x, .slice ao_x zs_x.length c_x, .bool ng_y, .slice ao_y zs_y.length c_y] 25)
  rw [z1] at C_y
  have f0 : (((w.alloc (.cells #[.bool ng_x, .slice ao_x zs_x.length c_x] 25)).alloc (.cells #[.bool ng_y, .slice ao_y zs_y.length c_y] 25)).alloc (.cells #[.bool ng_x, .slice ao_x zs_x.length c_x, .bool ng_y, .slice ao_y zs_y.length c_y] 25)).cell? ⟨w.heap.size + 2, 1, none⟩ = some (.slice ao_x zs_x.length c_x) := by rw [World.cell?_alloc_at _ _ _ _ (by rw [z2])]; rfl
  have f1 : (((w.alloc (.cells #[.bool ng_x, .slice ao_x zs_x.length c_x] 25)).alloc (.cells #[.bool ng_y, .slice ao_y zs_y.length c_y] 25)).alloc (.cells #[.bool ng_x, .slice ao_x zs_x.length c_x, .bool ng_y, .slice ao_y zs_y.length c_y] 25)).cell? ⟨w.heap.size + 2, 3, none⟩ = some (.slice ao_y zs_y.length c_y) := by rw [World.cell?_alloc_at _ _ _ _ (by rw [z2])]; rfl
  have fz : w.heap.size + 2 < (((w.alloc (.cells #[.bool ng_x, .slice ao_x zs_x.length c_x] 25)).alloc (.cells #[.bool ng_y, .slice ao_y zs_y.length c_y] 25)).alloc (.cells #[.bool ng_x, .slice ao_x zs_x.length c_x, .bool ng_y, .slice ao_y zs_y.length c_y] 25)).heap.size := by simp
  have hbey := beyond_w2 fz j_x j_y f0 f1
  clear fz f0 f1 z1 z2
  by_cases hbig : (1048576 < 1 + zs_x.length ∨ 1048576 < 1 + zs_y.length)
  · rw [decide_eq_true hbig] at hbey
    have Hbey := hide hbey
    clear hbey hbig
    go_enter Tryz.func4, Tryz.ntmps4
    go_wp2_with fail
    with_reducible refine Hbey.out.mono ?_
    rintro e w1 ⟨rfl, hb⟩
    go_wp2
    go_ret
    exact ⟨rfl, KB.trans (hb.mono KB.size)⟩
  rw [decide_eq_false hbig] at hbey
  have Hbey := hide hbey
  clear hbey
  have hl_x : zs_x.length ≤ 1048576 := by omega
  have h_x : WArg w (.agg #[.bool ng_x, .slice ao_x zs_x.length c_x]) (wn ng_x (Nt.val zs_x)) 1048576 := ⟨_, _, _, rfl, ⟨zs_x, ⟨ao_x, c_x, rfl, ha1_x, ha2_x, ha3_x⟩, o_x, rfl, by omega⟩, rfl⟩
  clear ha1_x ha2_x ha3_x o_x
  generalize wn ng_x (Nt.val zs_x) = N_x at *
  have H0_x := hide h_x
  replace h_x := h_x.below KB
  have HC_x := hide C_x
  clear C_x
  have hl_y : zs_y.length ≤ 1048576 := by omega
  have h_y : WArg w (.agg #[.bool ng_y, .slice ao_y zs_y.length c_y]) (wn ng_y (Nt.val zs_y)) 1048576 := ⟨_, _, _, rfl, ⟨zs_y, ⟨ao_y, c_y, rfl, ha1_y, ha2_y, ha3_y⟩, o_y, rfl, by omega⟩, rfl⟩
  clear ha1_y ha2_y ha3_y o_y
  generalize wn ng_y (Nt.val zs_y) = N_y at *
  have H0_y := hide h_y
  replace h_y := h_y.below KB
  have HC_y := hide C_y
  clear C_y
  clear hbig
  go_enter Tryz.func4, Tryz.ntmps4
  go_wp2_with fail
  with_reducible refine Hbey.out.mono ?_
  clear Hbey
  rintro e w1 ⟨rfl, hb⟩
  replace KB := KB.trans (hb.mono KB.size)
  replace h_x := h_x.below hb
  replace HC_x := hide (HC_x.out.below hb)
  replace h_y := h_y.below hb
  replace HC_y := hide (HC_y.out.below hb)
  clear hb
  have R_x := HR_x.out.below KB
  have R_y := HR_y.out.below KB
  go_upto_region 3 with fail
  go_cut [5, 6] from 11 (fun s5 s6 w' => ∃ b_t b_u g_t g_u, s5 = .pointer (some ⟨b_t, 0, none⟩) ∧ s6 = .pointer (some ⟨b_u, 0, none⟩) ∧ Cell2 w' b_t (.bool ng_x) (.slice (some ⟨g_t, 0, none⟩) zs_x.length (zs_x.length + 1)) ∧ Cell2 w' b_u (.bool ng_y) (.slice (some ⟨g_u, 0, none⟩) zs_y.length (zs_y.length + 1)) ∧ Twin 0 w' (.slice (some ⟨g_t, 0, none⟩) zs_x.length (zs_x.length + 1)) zs_x ∧ Twin 0 w' (.slice (some ⟨g_u, 0, none⟩) zs_y.length (zs_y.length + 1)) zs_y ∧ Below w1.heap.size w1 w')
  case first =>
    have K : Below w1.heap.size w1 w1.drew := (Below.refl _ _).drew
    have p_x := HC_x.out.c0
    have q_x := HC_x.out.c1
    have p_y := HC_y.out.c0
    have q_y := HC_y.out.c1
    go_region_held3 (fun w' => w'.cell? ⟨w.heap.size, 0, none⟩ = some (.bool ng_x) ∧ w'.cell? ⟨w.heap.size, 1, none⟩ = some (.slice ao_x zs_x.length c_x) ∧ w'.cell? ⟨w.heap.size + 1, 0, none⟩ = some (.bool ng_y) ∧ w'.cell? ⟨w.heap.size + 1, 1, none⟩ = some (.slice ao_y zs_y.length c_y))
      (first
        | with_reducible exact ⟨(HC_x.out.below K).c0, (HC_x.out.below K).c1, (HC_y.out.below K).c0, (HC_y.out.below K).c1⟩
        | exact ⟨(HC_x.out.below (by have ks := K.size; go_grown)).c0, (HC_x.out.below (by have ks := K.size; go_grown)).c1, (HC_y.out.below (by have ks := K.size; go_grown)).c0, (HC_y.out.below (by have ks := K.size; go_grown)).c1⟩)
      (first
        | (go_at_call 9; first | ((with_reducible refine (wtwin_any (R_x.below (by have ks := K.size; go_grown)) (by omega)).mono ?_); rintro e wn ⟨g_t, rfl, T1, hb⟩; replace K := below_trans' (a := w1) hb (by have ks := K.size; go_grown); have kl1 := K.size; revert hb; (first | (with_reducible refine after2d_k ?_; rintro ⟨Z11, Z12⟩ hb; have e0 := Z11.c0; have e1 := Z11.c1; have e2 := Z11.f0; have e3 := Z11.f1; have e4 := Z11.lt; have f0 := Z12.c0; have f1 := Z12.c1; have f2 := Z12.f0; have f3 := Z12.f1; have f4 := Z12.lt) | ((fail_if_success with_reducible refine after1d_k ?_); intro hb) | (with_reducible refine after1d_k ?_; rintro Z11 hb; have e0 := Z11.c0; have e1 := Z11.c1; have e2 := Z11.f0; have e3 := Z11.f1; have e4 := Z11.lt)); clear hb) | ((with_reducible refine (wtwin_any (R_y.below (by have ks := K.size; go_grown)) (by omega)).mono ?_); rintro e wn ⟨g_u, rfl, T2, hb⟩; replace T1 := T1.below_p hb (by go_grown); (try (replace Z11 := Z11.below_p hb (by go_grown); have e0 := Z11.c0; have e1 := Z11.c1; have e2 := Z11.f0; have e3 := Z11.f1; have e4 := Z11.lt)); (try (replace Z12 := Z12.below_p hb (by go_grown); have f0 := Z12.c0; have f1 := Z12.c1; have f2 := Z12.f0; have f3 := Z12.f1; have f4 := Z12.lt)); replace K := below_trans' (a := w1) hb (by have ks := K.size; go_grown); revert hb; (first | (with_reducible refine after2_k ?_; rintro ⟨Z21, Z22⟩ hb; have k0 := Z21.c0; have k1 := Z21.c1; have k2 := Z21.f0; have k3 := Z21.f1; have k4 := Z21.lt; have l0 := Z22.c0; have l1 := Z22.c1; have l2 := Z22.f0; have l3 := Z22.f1; have l4 := Z22.lt) | ((fail_if_success with_reducible refine after1_k ?_); intro hb) | (with_reducible refine after1_k ?_; rintro Z21 hb; have k0 := Z21.c0; have k1 := Z21.c1; have k2 := Z21.f0; have k3 := Z21.f1; have k4 := Z21.lt)); clear hb)))
    all_goals go_wp2_with fail
    all_goals go_meet
    all_goals have ks := K.size
    all_goals first
      | (obtain ⟨c1, c2, kb, mv⟩ := tw_aa K (.bool ng_x) (.slice (some ⟨g_t, 0, none⟩) zs_x.length (zs_x.length + 1)) (.bool ng_y) (.slice (some ⟨g_u, 0, none⟩) zs_y.length (zs_y.length + 1)) 25 25; with_reducible exact ⟨_, _, g_t, g_u, rfl, rfl, c1, c2, mv T1, mv T2, kb⟩)
      | (obtain ⟨c1, c2, kb, mv⟩ := tw_aa K (.bool ng_y) (.slice (some ⟨g_u, 0, none⟩) zs_y.length (zs_y.length + 1)) (.bool ng_x) (.slice (some ⟨g_t, 0, none⟩) zs_x.length (zs_x.length + 1)) 25 25; with_reducible exact ⟨_, _, g_t, g_u, rfl, rfl, c2, c1, mv T1, mv T2, kb⟩)
      | (obtain ⟨c1, c2, kb, mv⟩ := tw_sa K Z11 (by omega) (.bool ng_x) (.slice (some ⟨g_t, 0, none⟩) zs_x.length (zs_x.length + 1)) (.bool ng_y) (.slice (some ⟨g_u, 0, none⟩) zs_y.length (zs_y.length + 1)) 25; with_reducible exact ⟨_, _, g_t, g_u, rfl, rfl, c1, c2, mv T1, mv T2, kb⟩)
      | (obtain ⟨c1, c2, kb, mv⟩ := tw_sa K Z11 (by omega) (.bool ng_y) (.slice (some ⟨g_u, 0, none⟩) zs_y.length (zs_y.length + 1)) (.bool ng_x) (.slice (some ⟨g_t, 0, none⟩) zs_x.length (zs_x.length + 1)) 25; with_reducible exact ⟨_, _, g_t, g_u, rfl, rfl, c2, c1, mv T1, mv T2, kb⟩)
      | (obtain ⟨c1, c2, kb, mv⟩ := tw_sa K Z21 (by omega) (.bool ng_x) (.slice (some ⟨g_t, 0, none⟩) zs_x.length (zs_x.length + 1)) (.bool ng_y) (.slice (some ⟨g_u, 0, none⟩) zs_y.length (zs_y.length + 1)) 25; with_reducible exact ⟨_, _, g_t, g_u, rfl, rfl, c1, c2, mv T1, mv T2, kb⟩)
      | (obtain ⟨c1, c2, kb, mv⟩ := tw_sa K Z21 (by omega) (.bool ng_y) (.slice (some ⟨g_u, 0, none⟩) zs_y.length (zs_y.length + 1)) (.bool ng_x) (.slice (some ⟨g_t, 0, none⟩) zs_x.length (zs_x.length + 1)) 25; with_reducible exact ⟨_, _, g_t, g_u, rfl, rfl, c2, c1, mv T1, mv T2, kb⟩)
      | (obtain ⟨c1, c2, kb, mv⟩ := tw_ss K Z11 Z12 (by omega) (by omega) (by omega) (.bool ng_x) (.slice (some ⟨g_t, 0, none⟩) zs_x.length (zs_x.length + 1)) (.bool ng_y) (.slice (some ⟨g_u, 0, none⟩) zs_y.length (zs_y.length + 1)); with_reducible exact ⟨_, _, g_t, g_u, rfl, rfl, c1, c2, mv T1, mv T2, kb⟩)
      | (obtain ⟨c1, c2, kb, mv⟩ := tw_ss K Z12 Z11 (by omega) (by omega) (by omega) (.bool ng_x) (.slice (some ⟨g_t, 0, none⟩) zs_x.length (zs_x.length + 1)) (.bool ng_y) (.slice (some ⟨g_u, 0, none⟩) zs_y.length (zs_y.length + 1)); with_reducible exact ⟨_, _, g_t, g_u, rfl, rfl, c1, c2, mv T1, mv T2, kb⟩)
      | (obtain ⟨c1, c2, kb, mv⟩ := tw_ss K Z11 Z21 (by omega) (by omega) (by omega) (.bool ng_x) (.slice (some ⟨g_t, 0, none⟩) zs_x.length (zs_x.length + 1)) (.bool ng_y) (.slice (some ⟨g_u, 0, none⟩) zs_y.length (zs_y.length + 1)); with_reducible exact ⟨_, _, g_t, g_u, rfl, rfl, c1, c2, mv T1, mv T2, kb⟩)
      | (obtain ⟨c1, c2, kb, mv⟩ := tw_ss K Z21 Z11 (by omega) (by omega) (by omega) (.bool ng_x) (.slice (some ⟨g_t, 0, none⟩) zs_x.length (zs_x.length + 1)) (.bool ng_y) (.slice (some ⟨g_u, 0, none⟩) zs_y.length (zs_y.length + 1)); with_reducible exact ⟨_, _, g_t, g_u, rfl, rfl, c1, c2, mv T1, mv T2, kb⟩)
      | (obtain ⟨c1, c2, kb, mv⟩ := tw_ss K Z21 Z22 (by omega) (by omega) (by omega) (.bool ng_x) (.slice (some ⟨g_t, 0, none⟩) zs_x.length (zs_x.length + 1)) (.bool ng_y) (.slice (some ⟨g_u, 0, none⟩) zs_y.length (zs_y.length + 1)); with_reducible exact ⟨_, _, g_t, g_u, rfl, rfl, c1, c2, mv T1, mv T2, kb⟩)
      | (obtain ⟨c1, c2, kb, mv⟩ := tw_ss K Z22 Z21 (by omega) (by omega) (by omega) (.bool ng_x) (.slice (some ⟨g_t, 0, none⟩) zs_x.length (zs_x.length + 1)) (.bool ng_y) (.slice (some ⟨g_u, 0, none⟩) zs_y.length (zs_y.length + 1)); with_reducible exact ⟨_, _, g_t, g_u, rfl, rfl, c1, c2, mv T1, mv T2, kb⟩)
  case rest =>
  obtain ⟨b_t, b_u, g_t, g_u, rfl, rfl, C_t, C_u, Tw, Tv, K⟩ := hcut
  rename World => w2
  replace KB := below_trans KB K
  replace h_x := h_x.below K
  replace HC_x := hide (HC_x.out.below K)
  replace h_y := h_y.below K
  replace HC_y := hide (HC_y.out.below K)
  replace R_x := R_x.below K
  replace R_y := R_y.below K
  clear K
  have h_t := twin_arg3 H0_x.out HR_x.out Tw
  have h_u := twin_arg3 H0_y.out HR_y.out Tv
  have HC_t := hide C_t
  have HC_u := hide C_u
  clear C_t C_u
  obtain ⟨cxy, hcxy⟩ : ∃ c, sgn N_x N_y = c := ⟨_, rfl⟩
  obtain ⟨cyx, hcyx⟩ : ∃ c, sgn N_y N_x = c := ⟨_, rfl⟩
  have Hxy := hide hcxy
  have Hyx := hide hcyx
  clear hcxy hcyx
  have q1 : (cxy != cxy) = false := by simp
  have q2 : (cyx != cyx) = false := by simp
  go_upto_region 4 with fail
  have K : Below w2.heap.size w2 w2.drew := (Below.refl _ _).drew
  have p_t := HC_t.out.c0
  have q_t := HC_t.out.c1
  have p_u := HC_u.out.c0
  have q_u := HC_u.out.c1
  have p_x := HC_x.out.c0
  have q_x := HC_x.out.c1
  have p_y := HC_y.out.c0
  have q_y := HC_y.out.c1
  go_region_held3 (fun w' => w'.cell? ⟨b_t, 0, none⟩ = some (.bool ng_x) ∧ w'.cell? ⟨b_t, 1, none⟩ = some (.slice (some ⟨g_t, 0, none⟩) zs_x.length (zs_x.length + 1)) ∧ w'.cell? ⟨b_u, 0, none⟩ = some (.bool ng_y) ∧ w'.cell? ⟨b_u, 1, none⟩ = some (.slice (some ⟨g_u, 0, none⟩) zs_y.length (zs_y.length + 1)) ∧ w'.cell? ⟨w.heap.size, 0, none⟩ = some (.bool ng_x) ∧ w'.cell? ⟨w.heap.size, 1, none⟩ = some (.slice ao_x zs_x.length c_x) ∧ w'.cell? ⟨w.heap.size + 1, 0, none⟩ = some (.bool ng_y) ∧ w'.cell? ⟨w.heap.size + 1, 1, none⟩ = some (.slice ao_y zs_y.length c_y))
    (first
      | with_reducible exact ⟨(HC_t.out.below K).c0, (HC_t.out.below K).c1, (HC_u.out.below K).c0, (HC_u.out.below K).c1, (HC_x.out.below K).c0, (HC_x.out.below K).c1, (HC_y.out.below K).c0, (HC_y.out.below K).c1⟩
      | exact ⟨(HC_t.out.below (by have ks := K.size; go_grown)).c0, (HC_t.out.below (by have ks := K.size; go_grown)).c1, (HC_u.out.below (by have ks := K.size; go_grown)).c0, (HC_u.out.below (by have ks := K.size; go_grown)).c1, (HC_x.out.below (by have ks := K.size; go_grown)).c0, (HC_x.out.below (by have ks := K.size; go_grown)).c1, (HC_y.out.below (by have ks := K.size; go_grown)).c0, (HC_y.out.below (by have ks := K.size; go_grown)).c1⟩
      | go_keep)
    (first
      | (go_at_call 21; first | ((with_reducible refine (wcmp_told Hxy.out (h_t.below K) (h_u.below K) (by omega) (by omega)).mono ?_); rintro e wn ⟨rfl, hb⟩; replace K := below_trans K hb; (try replace t1 := t1.below hb); (try replace t2 := t2.below hb); clear hb) | ((with_reducible refine (wcmp_told Hyx.out (h_u.below K) (h_t.below K) (by omega) (by omega)).mono ?_); rintro e wn ⟨rfl, hb⟩; replace K := below_trans K hb; (try replace t1 := t1.below hb); (try replace t2 := t2.below hb); clear hb))
      | (go_at_call 22; first | ((with_reducible refine (r3cmp_told Hxy.out (h_x.below K) (by omega) (h_y.below K) (by omega)).mono ?_); rintro e wn ⟨rfl, hb⟩; replace K := below_trans K hb; (try replace t1 := t1.below hb); (try replace t2 := t2.below hb); clear hb) | ((with_reducible refine (r3cmp_told Hyx.out (h_y.below K) (by omega) (h_x.below K) (by omega)).mono ?_); rintro e wn ⟨rfl, hb⟩; replace K := below_trans K hb; (try replace t1 := t1.below hb); (try replace t2 := t2.below hb); clear hb))
      | (go_at_call 23; first | ((with_reducible refine (wneg_any (h_t.below K) (by omega)).mono ?_); rintro e wn ⟨v_t1, rfl, t1, hb⟩; replace K := below_trans K hb; (try replace t2 := t2.below hb); clear hb; obtain ⟨ng_t1, ro_t1, rl_t1, rfl⟩ := t1.told))
      | (go_at_call 24; first | ((with_reducible refine (r3neg_any (h_x.below K) (by omega)).mono ?_); rintro e wn ⟨v_t2, rfl, t2, hb⟩; replace K := below_trans K hb; (try replace t1 := t1.below hb); clear hb; obtain ⟨ng_t2, ro_t2, rl_t2, rfl⟩ := t2.told))
      | (go_at_call 14; first | ((with_reducible refine (wsame_any t1 t2 rfl).mono ?_); rintro e wn ⟨rfl, hb⟩; replace K := below_trans K hb; (try replace t1 := t1.below hb); (try replace t2 := t2.below hb); clear hb)))
  clear p_t q_t p_u q_u p_x q_x p_y q_y
  rename World => w3
  have K0 := K
  replace KB := below_trans KB K
  replace h_x := h_x.below K
  replace HC_x := hide (HC_x.out.below K)
  replace h_y := h_y.below K
  replace HC_y := hide (HC_y.out.below K)
  replace h_t := h_t.below K
  replace HC_t := hide (HC_t.out.below K)
  replace h_u := h_u.below K
  replace HC_u := hide (HC_u.out.below K)
  clear K t1 t2
  replace R_x := HR_x.out.below KB
  replace R_y := HR_y.out.below KB
  replace Tw := Tw.below K0
  replace Tv := Tv.below K0
  clear K0
  go_upto_region 6 with fail
  have K : Below w3.heap.size w3 w3.drew := (Below.refl _ _).drew
  have p_t := HC_t.out.c0
  have q_t := HC_t.out.c1
  have p_u := HC_u.out.c0
  have q_u := HC_u.out.c1
  have p_x := HC_x.out.c0
  have q_x := HC_x.out.c1
  have p_y := HC_y.out.c0
  have q_y := HC_y.out.c1
  go_region_held3 (fun w' => w'.cell? ⟨b_t, 0, none⟩ = some (.bool ng_x) ∧ w'.cell? ⟨b_t, 1, none⟩ = some (.slice (some ⟨g_t, 0, none⟩) zs_x.length (zs_x.length + 1)) ∧ w'.cell? ⟨b_u, 0, none⟩ = some (.bool ng_y) ∧ w'.cell? ⟨b_u, 1, none⟩ = some (.slice (some ⟨g_u, 0, none⟩) zs_y.length (zs_y.length + 1)) ∧ w'.cell? ⟨w.heap.size, 0, none⟩ = some (.bool ng_x) ∧ w'.cell? ⟨w.heap.size, 1, none⟩ = some (.slice ao_x zs_x.length c_x) ∧ w'.cell? ⟨w.heap.size + 1, 0, none⟩ = some (.bool ng_y) ∧ w'.cell? ⟨w.heap.size + 1, 1, none⟩ = some (.slice ao_y zs_y.length c_y))
    (first
      | with_reducible exact ⟨(HC_t.out.below K).c0, (HC_t.out.below K).c1, (HC_u.out.below K).c0, (HC_u.out.below K).c1, (HC_x.out.below K).c0, (HC_x.out.below K).c1, (HC_y.out.below K).c0, (HC_y.out.below K).c1⟩
      | exact ⟨(HC_t.out.below (by have ks := K.size; go_grown)).c0, (HC_t.out.below (by have ks := K.size; go_grown)).c1, (HC_u.out.below (by have ks := K.size; go_grown)).c0, (HC_u.out.below (by have ks := K.size; go_grown)).c1, (HC_x.out.below (by have ks := K.size; go_grown)).c0, (HC_x.out.below (by have ks := K.size; go_grown)).c1, (HC_y.out.below (by have ks := K.size; go_grown)).c0, (HC_y.out.below (by have ks := K.size; go_grown)).c1⟩
      | go_keep)
    (first
      | (go_at_call 25; first | ((with_reducible refine (wadd_any (h_t.below K) (by omega) (h_u.below K) (by omega)).mono ?_); rintro e wn ⟨v_t1, rfl, t1, hb⟩; replace K := below_trans K hb; (try replace t2 := t2.below hb); (try replace t3 := t3.below hb); (try replace t4 := t4.below hb); (try replace t5 := t5.below hb); (try replace t6 := t6.below hb); (try replace t7 := t7.below hb); (try replace t8 := t8.below hb); clear hb; obtain ⟨ng_t1, ro_t1, rl_t1, rfl⟩ := t1.told))
      | (go_at_call 26; first | ((with_reducible refine (r3add_any (h_x.below K) (by omega) (h_y.below K) (by omega)).mono ?_); rintro e wn ⟨v_t2, rfl, t2, hb⟩; replace K := below_trans K hb; (try replace t1 := t1.below hb); (try replace t3 := t3.below hb); (try replace t4 := t4.below hb); (try replace t5 := t5.below hb); (try replace t6 := t6.below hb); (try replace t7 := t7.below hb); (try replace t8 := t8.below hb); clear hb; obtain ⟨ng_t2, ro_t2, rl_t2, rfl⟩ := t2.told))
      | (go_at_call 14; first | ((with_reducible refine (wsame_any t1 t2 rfl).mono ?_); rintro e wn ⟨rfl, hb⟩; replace K := below_trans K hb; (try replace t1 := t1.below hb); (try replace t2 := t2.below hb); (try replace t3 := t3.below hb); (try replace t4 := t4.below hb); (try replace t5 := t5.below hb); (try replace t6 := t6.below hb); (try replace t7 := t7.below hb); (try replace t8 := t8.below hb); clear hb) | ((with_reducible refine (wsame_any t3 t4 rfl).mono ?_); rintro e wn ⟨rfl, hb⟩; replace K := below_trans K hb; (try replace t1 := t1.below hb); (try replace t2 := t2.below hb); (try replace t3 := t3.below hb); (try replace t4 := t4.below hb); (try replace t5 := t5.below hb); (try replace t6 := t6.below hb); (try replace t7 := t7.below hb); (try replace t8 := t8.below hb); clear hb) | ((with_reducible refine (wsame_any t5 t6 rfl).mono ?_); rintro e wn ⟨rfl, hb⟩; replace K := below_trans K hb; (try replace t1 := t1.below hb); (try replace t2 := t2.below hb); (try replace t3 := t3.below hb); (try replace t4 := t4.below hb); (try replace t5 := t5.below hb); (try replace t6 := t6.below hb); (try replace t7 := t7.below hb); (try replace t8 := t8.below hb); clear hb) | ((with_reducible refine (wsame_any t7 t8 rfl).mono ?_); rintro e wn ⟨rfl, hb⟩; replace K := below_trans K hb; (try replace t1 := t1.below hb); (try replace t2 := t2.below hb); (try replace t3 := t3.below hb); (try replace t4 := t4.below hb); (try replace t5 := t5.below hb); (try replace t6 := t6.below hb); (try replace t7 := t7.below hb); (try replace t8 := t8.below hb); clear hb))
      | (go_at_call 27; first | ((with_reducible refine (wsub_any (h_t.below K) (by omega) (h_u.below K) (by omega)).mono ?_); rintro e wn ⟨v_t3, rfl, t3, hb⟩; replace K := below_trans K hb; (try replace t1 := t1.below hb); (try replace t2 := t2.below hb); (try replace t4 := t4.below hb); (try replace t5 := t5.below hb); (try replace t6 := t6.below hb); (try replace t7 := t7.below hb); (try replace t8 := t8.below hb); clear hb; obtain ⟨ng_t3, ro_t3, rl_t3, rfl⟩ := t3.told) | ((with_reducible refine (wsub_any (h_u.below K) (by omega) (h_t.below K) (by omega)).mono ?_); rintro e wn ⟨v_t5, rfl, t5, hb⟩; replace K := below_trans K hb; (try replace t1 := t1.below hb); (try replace t2 := t2.below hb); (try replace t3 := t3.below hb); (try replace t4 := t4.below hb); (try replace t6 := t6.below hb); (try replace t7 := t7.below hb); (try replace t8 := t8.below hb); clear hb; obtain ⟨ng_t5, ro_t5, rl_t5, rfl⟩ := t5.told))
      | (go_at_call 28; first | ((with_reducible refine (r3sub_any (h_x.below K) (by omega) (h_y.below K) (by omega)).mono ?_); rintro e wn ⟨v_t4, rfl, t4, hb⟩; replace K := below_trans K hb; (try replace t1 := t1.below hb); (try replace t2 := t2.below hb); (try replace t3 := t3.below hb); (try replace t5 := t5.below hb); (try replace t6 := t6.below hb); (try replace t7 := t7.below hb); (try replace t8 := t8.below hb); clear hb; obtain ⟨ng_t4, ro_t4, rl_t4, rfl⟩ := t4.told) | ((with_reducible refine (r3sub_any (h_y.below K) (by omega) (h_x.below K) (by omega)).mono ?_); rintro e wn ⟨v_t6, rfl, t6, hb⟩; replace K := below_trans K hb; (try replace t1 := t1.below hb); (try replace t2 := t2.below hb); (try replace t3 := t3.below hb); (try replace t4 := t4.below hb); (try replace t5 := t5.below hb); (try replace t7 := t7.below hb); (try replace t8 := t8.below hb); clear hb; obtain ⟨ng_t6, ro_t6, rl_t6, rfl⟩ := t6.told))
      | (go_at_call 29; first | ((with_reducible refine (wmul_any (h_t.below K) (by omega) (h_u.below K) (by omega)).mono ?_); rintro e wn ⟨v_t7, rfl, t7, hb⟩; replace K := below_trans K hb; (try replace t1 := t1.below hb); (try replace t2 := t2.below hb); (try replace t3 := t3.below hb); (try replace t4 := t4.below hb); (try replace t5 := t5.below hb); (try replace t6 := t6.below hb); (try replace t8 := t8.below hb); clear hb; obtain ⟨ng_t7, ro_t7, rl_t7, rfl⟩ := t7.told))
      | (go_at_call 30; first | ((with_reducible refine (r3mul_any (h_x.below K) (by omega) (h_y.below K) (by omega)).mono ?_); rintro e wn ⟨v_t8, rfl, t8, hb⟩; replace K := below_trans K hb; (try replace t1 := t1.below hb); (try replace t2 := t2.below hb); (try replace t3 := t3.below hb); (try replace t4 := t4.below hb); (try replace t5 := t5.below hb); (try replace t6 := t6.below hb); (try replace t7 := t7.below hb); clear hb; obtain ⟨ng_t8, ro_t8, rl_t8, rfl⟩ := t8.told)))
  clear p_t q_t p_u q_u p_x q_x p_y q_y
  rename World => w4
  have K0 := K
  replace KB := below_trans KB K
  replace h_x := h_x.below K
  replace HC_x := hide (HC_x.out.below K)
  replace h_y := h_y.below K
  replace HC_y := hide (HC_y.out.below K)
  replace h_t := h_t.below K
  replace HC_t := hide (HC_t.out.below K)
  replace h_u := h_u.below K
  replace HC_u := hide (HC_u.out.below K)
  clear K t1 t2 t3 t4 t5 t6 t7 t8
  replace R_x := HR_x.out.below KB
  replace R_y := HR_y.out.below KB
  replace Tw := Tw.below K0
  replace Tv := Tv.below K0
  clear K0
  have p_t := HC_t.out.c0
  have q_t := HC_t.out.c1
  have p_x := HC_x.out.c0
  have q_x := HC_x.out.c1
  go_wp2_with fail
  (with_reducible refine (wleft_any Tw R_x).mono ?_)
  rintro e w5 ⟨rfl, hb⟩
  clear p_t q_t p_x q_x
  replace KB := below_trans KB hb
  replace Tw := Tw.below hb
  replace Tv := Tv.below hb
  replace R_x := R_x.below hb
  replace R_y := R_y.below hb
  replace h_x := h_x.below hb
  replace HC_x := hide (HC_x.out.below hb)
  replace h_y := h_y.below hb
  replace HC_y := hide (HC_y.out.below hb)
  replace h_t := h_t.below hb
  replace HC_t := hide (HC_t.out.below hb)
  replace h_u := h_u.below hb
  replace HC_u := hide (HC_u.out.below hb)
  clear hb
  have p_u := HC_u.out.c0
  have q_u := HC_u.out.c1
  have p_y := HC_y.out.c0
  have q_y := HC_y.out.c1
  go_wp2_with fail
  (with_reducible refine (wleft_any Tv R_y).mono ?_)
  rintro e w6 ⟨rfl, hb⟩
  clear p_u q_u p_y q_y
  replace KB := below_trans KB hb
  replace Tw := Tw.below hb
  replace Tv := Tv.below hb
  replace R_x := R_x.below hb
  replace R_y := R_y.below hb
  replace h_x := h_x.below hb
  replace HC_x := hide (HC_x.out.below hb)
  replace h_y := h_y.below hb
  replace HC_y := hide (HC_y.out.below hb)
  replace h_t := h_t.below hb
  replace HC_t := hide (HC_t.out.below hb)
  replace h_u := h_u.below hb
  replace HC_u := hide (HC_u.out.below hb)
  clear hb
  go_wp2_with fail
  (with_reducible refine wlives_any.mono ?_)
  rintro e w99 ⟨rfl, hb⟩
  replace KB := below_trans KB hb
  go_wp2
  go_ret
  exact ⟨rfl, KB⟩

end Go.Proofs.YtbjohagiiidpjaaGreatDoor
