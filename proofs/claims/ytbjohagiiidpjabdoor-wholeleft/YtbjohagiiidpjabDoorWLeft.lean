/- WholeLeft: the walk -/
import Derived.Test.YtbjohagiiidpjabDoorWLives
namespace Go.Proofs.YtbjohagiiidpjabDoor
open Go.RowKit

theorem beyond_w2 {w : World} {g : Nat} {a0 a1 : Option Addr} {l0 c0 l1 c1 : Nat} (hg : g < w.heap.size) (j0 : l0 ≤ 70368744177664) (j1 : l1 ≤ 70368744177664) (h0 : w.cell? ⟨g, 1, none⟩ = some (.slice a0 l0 c0)) (h1 : w.cell? ⟨g, 3, none⟩ = some (.slice a1 l1 c1)) :
    Calls Tryd.prog 9 #[.slice (some ⟨g, 0, none⟩) 2 2] w fun e w' => e = .returned (.bool (decide (1048576 < 1 + l0 ∨ 1048576 < 1 + l1))) ∧ Below w.heap.size w w' := by
  refine (wbeyond_any (ls := [l0, l1]) (by simp) (fun i => ?_) hg (fun i hi => ?_)).mono ?_
  · match i with
    | 0 => simpa using j0
    | 1 => simpa using j1
    | i + 2 => simp
  · match i, hi with
    | 0, _ => exact ⟨_, _, h0⟩
    | 1, _ => exact ⟨_, _, h1⟩
  · rintro e w' ⟨rfl, hb⟩
    refine ⟨?_, hb⟩
    congr 2
    apply decide_eq_decide.2
    constructor
    · rintro ⟨i, hi, h⟩
      match i, hi, h with
      | 0, _, h => exact Or.inl h
      | 1, _, h => exact Or.inr (h)
    · intro h
      rcases h with h | h
      · exact ⟨0, by simp, h⟩
      · exact ⟨1, by simp, h⟩

set_option maxRecDepth 100000 in
set_option maxHeartbeats 16000000 in
theorem wleft_walk {w : World} {ng_x : Bool} {v_x : Value} {zs_x : List Int} {ng_y : Bool} {v_y : Value} {zs_y : List Int}
    (r_x : Reads .u32 w v_x zs_x) (o_x : Nt.Ok zs_x) (j_x : zs_x.length ≤ 70368744177664) (r_y : Reads .u32 w v_y zs_y) (o_y : Nt.Ok zs_y) (j_y : zs_y.length ≤ 70368744177664) :
    Calls Tryd.prog 5 #[.agg #[.bool ng_x, v_x], .agg #[.bool ng_y, v_y]] w fun e w' => e = .returned (.bool true) ∧ Below w.heap.size w w' := by
  obtain ⟨ao_x, c_x, rfl, ha1_x, ha2_x, ha3_x⟩ := r_x
  obtain ⟨ao_y, c_y, rfl, ha1_y, ha2_y, ha3_y⟩ := r_y
  have KB : Below w.heap.size w (((w.alloc (.cells #[.bool ng_x, .slice ao_x zs_x.length c_x] 25)).alloc (.cells #[.bool ng_y, .slice ao_y zs_y.length c_y] 25)).alloc (.cells #[.bool ng_x, .slice ao_x zs_x.length c_x, .bool ng_y, .slice ao_y zs_y.length c_y] 25)) := (below_trans (below_trans (bel_alloc _ _) (bel_alloc _ _)) (bel_alloc _ _))
  have z1 : (w.alloc (.cells #[.bool ng_x, .slice ao_x zs_x.length c_x] 25)).heap.size = w.heap.size + 1 := by simp
  have z2 : ((w.alloc (.cells #[.bool ng_x, .slice ao_x zs_x.length c_x] 25)).alloc (.cells #[.bool ng_y, .slice ao_y zs_y.length c_y] 25)).heap.size = w.heap.size + 2 := by simp
  have C_x := ((cell2_new w (.bool ng_x) (.slice ao_x zs_x.length c_x) 25).alloc (.cells #[.bool ng_y, .slice ao_y zs_y.length c_y] 25)).alloc (.cells #[.bool ng_x, .slice ao_x zs_x.length c_x, .bool ng_y, .slice ao_y zs_y.length c_y] 25)
  have C_y := (cell2_new (w.alloc (.cells #[.bool ng_x, .slice ao_x zs_x.length c_x] 25)) (.bool ng_y) (.slice ao_y zs_y.length c_y) 25).alloc (.cells #[.bool ng_x, .slice ao_x zs_x.length c_x, .bool ng_y, .slice ao_y zs_y.length c_y] 25)
  rw [z1] at C_y
  have f0 : (((w.alloc (.cells #[.bool ng_x, .slice ao_x zs_x.length c_x] 25)).alloc (.cells #[.bool ng_y, .slice ao_y zs_y.length c_y] 25)).alloc (.cells #[.bool ng_x, .slice ao_x zs_x.length c_x, .bool ng_y, .slice ao_y zs_y.length c_y] 25)).cell? ⟨w.heap.size + 2, 1, none⟩ = some (.slice ao_x zs_x.length c_x) := by rw [World.cell?_alloc_at _ _ _ _ (by rw [z2])]; rfl
  have f1 : (((w.alloc (.cells #[.bool ng_x, .slice ao_x zs_x.length c_x] 25)).alloc (.cells #[.bool ng_y, .slice ao_y zs_y.length c_y] 25)).alloc (.cells #[.bool ng_x, .slice ao_x zs_x.length c_x, .bool ng_y, .slice ao_y zs_y.length c_y] 25)).cell? ⟨w.heap.size + 2, 3, none⟩ = some (.slice ao_y zs_y.length c_y) := by rw [World.cell?_alloc_at _ _ _ _ (by rw [z2])]; rfl
  have fz : w.heap.size + 2 < (((w.alloc (.cells #[.bool ng_x, .slice ao_x zs_x.length c_x] 25)).alloc (.cells #[.bool ng_y, .slice ao_y zs_y.length c_y] 25)).alloc (.cells #[.bool ng_x, .slice ao_x zs_x.length c_x, .bool ng_y, .slice ao_y zs_y.length c_y] 25)).heap.size := by simp
  have hbey := beyond_w2 fz j_x j_y f0 f1
  clear fz f0 f1 z1 z2
  by_cases hbig : (1048576 < 1 + zs_x.length ∨ 1048576 < 1 + zs_y.length)
  · rw [decide_eq_true hbig] at hbey
    have Hbey := hide hbey
    clear hbey hbig
    go_enter Tryd.func5, Tryd.ntmps5
    go_wp2_with fail
    with_reducible refine Hbey.out.mono ?_
    rintro e w1 ⟨rfl, hb⟩
    go_wp2
    go_ret
    exact ⟨rfl, KB.trans (hb.mono KB.size)⟩
  rw [decide_eq_false hbig] at hbey
  have Hbey := hide hbey
  clear hbey
  have hl_x : zs_x.length ≤ 1048576 := by omega
  have h_x : WArg w (.agg #[.bool ng_x, .slice ao_x zs_x.length c_x]) (wn ng_x (Nt.val zs_x)) 1048576 := ⟨_, _, _, rfl, ⟨zs_x, ⟨ao_x, c_x, rfl, ha1_x, ha2_x, ha3_x⟩, o_x, rfl, by omega⟩, rfl⟩
  clear ha1_x ha2_x ha3_x o_x
  generalize wn ng_x (Nt.val zs_x) = N_x at *
  have H0_x := hide h_x
  replace h_x := h_x.below KB
  have HC_x := hide C_x
  clear C_x
  have hl_y : zs_y.length ≤ 1048576 := by omega
  have h_y : WArg w (.agg #[.bool ng_y, .slice ao_y zs_y.length c_y]) (wn ng_y (Nt.val zs_y)) 1048576 := ⟨_, _, _, rfl, ⟨zs_y, ⟨ao_y, c_y, rfl, ha1_y, ha2_y, ha3_y⟩, o_y, rfl, by omega⟩, rfl⟩
  clear ha1_y ha2_y ha3_y o_y
  generalize wn ng_y (Nt.val zs_y) = N_y at *
  have H0_y := hide h_y
  replace h_y := h_y.below KB
  have HC_y := hide C_y
  clear C_y
  clear hbig
  go_enter Tryd.func5, Tryd.ntmps5
  go_wp2_with fail
  with_reducible refine Hbey.out.mono ?_
  clear Hbey
  rintro e w1 ⟨rfl, hb⟩
  replace KB := KB.trans (hb.mono KB.size)
  replace h_x := h_x.below hb
  replace HC_x := hide (HC_x.out.below hb)
  replace h_y := h_y.below hb
  replace HC_y := hide (HC_y.out.below hb)
  clear hb
  go_wp2_with fail
  with_reducible refine (wfrom_any (n := 0) (by omega) (by omega)).mono ?_
  rintro e w2 ⟨v_o, rfl, h_o, hb⟩
  replace KB := below_trans KB hb
  replace h_x := h_x.below hb
  replace HC_x := hide (HC_x.out.below hb)
  replace h_y := h_y.below hb
  replace HC_y := hide (HC_y.out.below hb)
  clear hb
  obtain ⟨ng_o, ro_o, rl_o, rfl⟩ := h_o.told
  go_upto_region 4 with fail
  have hb : Below w2.heap.size w2 (w2.alloc (.cells #[.bool ng_o, .slice ro_o rl_o rl_o] 25)) := (bel_alloc _ _)
  obtain ⟨b_o, eb⟩ : ∃ b, b = w2.heap.size := ⟨_, rfl⟩
  have C_o := cell2_new w2 (.bool ng_o) (.slice ro_o rl_o rl_o) 25
  replace KB := below_trans KB hb
  replace h_o := h_o.below hb
  replace h_x := h_x.below hb
  replace HC_x := hide (HC_x.out.below hb)
  replace h_y := h_y.below hb
  replace HC_y := hide (HC_y.out.below hb)
  clear hb
  rw [← eb] at C_o ⊢
  clear eb
  generalize (w2.alloc (.cells #[.bool ng_o, .slice ro_o rl_o rl_o] 25)) = w3 at *
  have HC_o := hide C_o
  clear C_o
  by_cases hy0 : N_y = 0
  ·
    have p_x := HC_x.out.c0
    have q_x := HC_x.out.c1
    have p_y := HC_y.out.c0
    have q_y := HC_y.out.c1
    go_wp2_with fail
    with_reducible refine (wquo_zero h_x.arg (by omega) h_y.arg (by omega) hy0).mono ?_
    rintro e w4 ⟨rfl, hb⟩
    clear p_x q_x p_y q_y
    replace KB := below_trans KB hb
    replace h_x := h_x.below hb
    replace HC_x := hide (HC_x.out.below hb)
    replace h_y := h_y.below hb
    replace HC_y := hide (HC_y.out.below hb)
    replace h_o := h_o.below hb
    replace HC_o := hide (HC_o.out.below hb)
    clear hb
    have h_q := wnum_zero 0 w4 0
    have h_r := wnum_zero 0 w4 0
    go_upto_region 5 with fail
    have hb : Below w4.heap.size w4 ((w4.alloc (.cells #[.bool false, .slice none 0 0] 25)).alloc (.cells #[.bool false, .slice none 0 0] 25)) := (below_trans (bel_alloc _ _) (bel_alloc _ _))
    obtain ⟨b_q, eb⟩ : ∃ b, b = w4.heap.size := ⟨_, rfl⟩
    have z1 : (w4.alloc (.cells #[.bool false, .slice none 0 0] 25)).heap.size = w4.heap.size + 1 := by simp
    have C_q := (cell2_new w4 (.bool false) (.slice none 0 0) 25).alloc (.cells #[.bool false, .slice none 0 0] 25)
    have C_r := cell2_new (w4.alloc (.cells #[.bool false, .slice none 0 0] 25)) (.bool false) (.slice none 0 0) 25
    rw [z1] at C_r
    clear z1
    replace KB := below_trans KB hb
    replace h_q := h_q.below hb
    replace h_r := h_r.below hb
    replace h_x := h_x.below hb
    replace HC_x := hide (HC_x.out.below hb)
    replace h_y := h_y.below hb
    replace HC_y := hide (HC_y.out.below hb)
    replace h_o := h_o.below hb
    replace HC_o := hide (HC_o.out.below hb)
    clear hb
    rw [← eb] at C_q C_r ⊢
    clear eb
    generalize ((w4.alloc (.cells #[.bool false, .slice none 0 0] 25)).alloc (.cells #[.bool false, .slice none 0 0] 25)) = w5 at *
    have HC_q := hide C_q
    clear C_q
    have HC_r := hide C_r
    clear C_r
    have cy : sgn N_y 0 = 0 := sgn_eq hy0
    have Hcy := hide cy
    clear cy
    have p_y := HC_y.out.c0
    have q_y := HC_y.out.c1
    have p_o := HC_o.out.c0
    have q_o := HC_o.out.c1
    go_wp2_with fail
    with_reducible refine (wcmp_told Hcy.out h_y.arg h_o.arg (by omega) (by omega)).mono ?_
    rintro e w6 ⟨rfl, hb⟩
    clear p_y q_y p_o q_o
    replace KB := below_trans KB hb
    replace h_x := h_x.below hb
    replace HC_x := hide (HC_x.out.below hb)
    replace h_y := h_y.below hb
    replace HC_y := hide (HC_y.out.below hb)
    replace h_o := h_o.below hb
    replace HC_o := hide (HC_o.out.below hb)
    replace h_q := h_q.below hb
    replace HC_q := hide (HC_q.out.below hb)
    replace h_r := h_r.below hb
    replace HC_r := hide (HC_r.out.below hb)
    clear hb
    have p_q := HC_q.out.c0
    have q_q := HC_q.out.c1
    go_wp2_with fail
    with_reducible refine (wsame_any h_q (wnum_zero 0 _ 0) rfl).mono ?_
    rintro e w7 ⟨rfl, hb⟩
    clear p_q q_q
    replace KB := below_trans KB hb
    replace h_x := h_x.below hb
    replace HC_x := hide (HC_x.out.below hb)
    replace h_y := h_y.below hb
    replace HC_y := hide (HC_y.out.below hb)
    replace h_o := h_o.below hb
    replace HC_o := hide (HC_o.out.below hb)
    replace h_q := h_q.below hb
    replace HC_q := hide (HC_q.out.below hb)
    replace h_r := h_r.below hb
    replace HC_r := hide (HC_r.out.below hb)
    clear hb
    have p_r := HC_r.out.c0
    have q_r := HC_r.out.c1
    go_wp2_with fail
    with_reducible refine (wsame_any h_r (wnum_zero 0 _ 0) rfl).mono ?_
    rintro e w8 ⟨rfl, hb⟩
    clear p_r q_r
    replace KB := below_trans KB hb
    replace h_x := h_x.below hb
    replace HC_x := hide (HC_x.out.below hb)
    replace h_y := h_y.below hb
    replace HC_y := hide (HC_y.out.below hb)
    replace h_o := h_o.below hb
    replace HC_o := hide (HC_o.out.below hb)
    replace h_q := h_q.below hb
    replace HC_q := hide (HC_q.out.below hb)
    replace h_r := h_r.below hb
    replace HC_r := hide (HC_r.out.below hb)
    clear hb
    go_wp2_with fail
    with_reducible refine (wlives_any ).mono ?_
    rintro e w9 ⟨rfl, hb⟩
    replace KB := below_trans KB hb
    replace h_x := h_x.below hb
    replace HC_x := hide (HC_x.out.below hb)
    replace h_y := h_y.below hb
    replace HC_y := hide (HC_y.out.below hb)
    replace h_o := h_o.below hb
    replace HC_o := hide (HC_o.out.below hb)
    replace h_q := h_q.below hb
    replace HC_q := hide (HC_q.out.below hb)
    replace h_r := h_r.below hb
    replace HC_r := hide (HC_r.out.below hb)
    clear hb
    go_wp2
    go_ret
    exact ⟨rfl, KB⟩
  ·
    have p_x := HC_x.out.c0
    have q_x := HC_x.out.c1
    have p_y := HC_y.out.c0
    have q_y := HC_y.out.c1
    go_wp2_with fail
    with_reducible refine (wquo_any h_x.arg (by omega) h_y.arg (by omega) hy0).mono ?_
    rintro e w4 ⟨v_q, v_r, rfl, h_q, h_r, hb⟩
    clear p_x q_x p_y q_y
    replace KB := below_trans KB hb
    replace h_x := h_x.below hb
    replace HC_x := hide (HC_x.out.below hb)
    replace h_y := h_y.below hb
    replace HC_y := hide (HC_y.out.below hb)
    replace h_o := h_o.below hb
    replace HC_o := hide (HC_o.out.below hb)
    clear hb
    obtain ⟨ng_q, ro_q, rl_q, rfl⟩ := h_q.told
    obtain ⟨ng_r, ro_r, rl_r, rfl⟩ := h_r.told
    go_upto_region 5 with fail
    have hb : Below w4.heap.size w4 ((w4.alloc (.cells #[.bool ng_q, .slice ro_q rl_q rl_q] 25)).alloc (.cells #[.bool ng_r, .slice ro_r rl_r rl_r] 25)) := (below_trans (bel_alloc _ _) (bel_alloc _ _))
    obtain ⟨b_q, eb⟩ : ∃ b, b = w4.heap.size := ⟨_, rfl⟩
    have z1 : (w4.alloc (.cells #[.bool ng_q, .slice ro_q rl_q rl_q] 25)).heap.size = w4.heap.size + 1 := by simp
    have C_q := (cell2_new w4 (.bool ng_q) (.slice ro_q rl_q rl_q) 25).alloc (.cells #[.bool ng_r, .slice ro_r rl_r rl_r] 25)
    have C_r := cell2_new (w4.alloc (.cells #[.bool ng_q, .slice ro_q rl_q rl_q] 25)) (.bool ng_r) (.slice ro_r rl_r rl_r) 25
    rw [z1] at C_r
    clear z1
    replace KB := below_trans KB hb
    replace h_q := h_q.below hb
    replace h_r := h_r.below hb
    replace h_x := h_x.below hb
    replace HC_x := hide (HC_x.out.below hb)
    replace h_y := h_y.below hb
    replace HC_y := hide (HC_y.out.below hb)
    replace h_o := h_o.below hb
    replace HC_o := hide (HC_o.out.below hb)
    clear hb
    rw [← eb] at C_q C_r ⊢
    clear eb
    generalize ((w4.alloc (.cells #[.bool ng_q, .slice ro_q rl_q rl_q] 25)).alloc (.cells #[.bool ng_r, .slice ro_r rl_r rl_r] 25)) = w5 at *
    have HC_q := hide C_q
    clear C_q
    have HC_r := hide C_r
    clear C_r
    have s0 : ¬ sgn N_y 0 = 0 := by rcases sgn_cases N_y 0 with h | h | h <;> omega
    have s1 : (sgn N_y 0 == 0) = false := by simpa using s0
    have p_y := HC_y.out.c0
    have q_y := HC_y.out.c1
    have p_o := HC_o.out.c0
    have q_o := HC_o.out.c1
    go_wp2_with fail
    with_reducible refine (wcmp_any h_y.arg h_o.arg (by omega) (by omega)).mono ?_
    rintro e w6 ⟨rfl, hb⟩
    clear p_y q_y p_o q_o
    replace KB := below_trans KB hb
    replace h_x := h_x.below hb
    replace HC_x := hide (HC_x.out.below hb)
    replace h_y := h_y.below hb
    replace HC_y := hide (HC_y.out.below hb)
    replace h_o := h_o.below hb
    replace HC_o := hide (HC_o.out.below hb)
    replace h_q := h_q.below hb
    replace HC_q := hide (HC_q.out.below hb)
    replace h_r := h_r.below hb
    replace HC_r := hide (HC_r.out.below hb)
    clear hb
    have eqr : N_x.tdiv N_y * N_y + N_x.tmod N_y = N_x := by rw [Int.mul_comm]; exact Int.mul_tdiv_add_tmod _ _
    have s2 : sgn N_x N_x = 0 := sgn_eq rfl
    go_upto_region 7 with fail
    have K : Below w6.heap.size w6 w6.drew := (Below.refl _ _).drew
    have p_q := HC_q.out.c0
    have q_q := HC_q.out.c1
    have p_r := HC_r.out.c0
    have q_r := HC_r.out.c1
    have p_y := HC_y.out.c0
    have q_y := HC_y.out.c1
    have p_x := HC_x.out.c0
    have q_x := HC_x.out.c1
    go_region_held3 (fun w' => w'.cell? ⟨b_q, 0, none⟩ = some (.bool ng_q) ∧ w'.cell? ⟨b_q, 1, none⟩ = some (.slice ro_q rl_q rl_q) ∧ w'.cell? ⟨b_q + 1, 0, none⟩ = some (.bool ng_r) ∧ w'.cell? ⟨b_q + 1, 1, none⟩ = some (.slice ro_r rl_r rl_r) ∧ w'.cell? ⟨w.heap.size + 1, 0, none⟩ = some (.bool ng_y) ∧ w'.cell? ⟨w.heap.size + 1, 1, none⟩ = some (.slice ao_y zs_y.length c_y) ∧ w'.cell? ⟨w.heap.size, 0, none⟩ = some (.bool ng_x) ∧ w'.cell? ⟨w.heap.size, 1, none⟩ = some (.slice ao_x zs_x.length c_x))
      (first
        | with_reducible exact ⟨(HC_q.out.below K).c0, (HC_q.out.below K).c1, (HC_r.out.below K).c0, (HC_r.out.below K).c1, (HC_y.out.below K).c0, (HC_y.out.below K).c1, (HC_x.out.below K).c0, (HC_x.out.below K).c1⟩
        | exact ⟨(HC_q.out.below (by have ks := K.size; go_grown)).c0, (HC_q.out.below (by have ks := K.size; go_grown)).c1, (HC_r.out.below (by have ks := K.size; go_grown)).c0, (HC_r.out.below (by have ks := K.size; go_grown)).c1, (HC_y.out.below (by have ks := K.size; go_grown)).c0, (HC_y.out.below (by have ks := K.size; go_grown)).c1, (HC_x.out.below (by have ks := K.size; go_grown)).c0, (HC_x.out.below (by have ks := K.size; go_grown)).c1⟩
        | go_keep)
      (first
        | (go_at_call 13; first | ((with_reducible refine (normal_any (h_q.below K)).mono ?_); rintro e wn ⟨rfl, hb⟩; replace K := below_trans K hb; (try replace t1 := t1.below hb); (try replace t2 := t2.below hb); clear hb) | ((with_reducible refine (normal_any (h_r.below K)).mono ?_); rintro e wn ⟨rfl, hb⟩; replace K := below_trans K hb; (try replace t1 := t1.below hb); (try replace t2 := t2.below hb); clear hb))
        | (go_at_call 12; first | ((with_reducible refine (wmul_any (h_q.arg.below K) (by omega) (h_y.arg.below K) (by omega)).mono ?_); rintro e wn ⟨v_t1, rfl, t1, hb⟩; replace K := below_trans K hb; (try replace t2 := t2.below hb); clear hb; obtain ⟨ng_t1, ro_t1, rl_t1, rfl⟩ := t1.told))
        | (go_at_call 11; first | ((with_reducible refine (wadd_any t1.arg (by omega) (h_r.arg.below K) (by omega)).mono ?_); rintro e wn ⟨v_t2, rfl, t2, hb⟩; replace K := below_trans K hb; (try replace t1 := t1.below hb); clear hb; obtain ⟨ng_t2, ro_t2, rl_t2, rfl⟩ := t2.told))
        | (go_at_call 19; first | ((with_reducible refine (wcmp_any t2.arg (h_x.arg.below K) (by omega) (by omega)).mono ?_); rintro e wn ⟨rfl, hb⟩; replace K := below_trans K hb; (try replace t1 := t1.below hb); (try replace t2 := t2.below hb); clear hb)))
    clear p_q q_q p_r q_r p_y q_y p_x q_x
    rename World => w7
    replace KB := below_trans KB K
    replace h_x := h_x.below K
    replace HC_x := hide (HC_x.out.below K)
    replace h_y := h_y.below K
    replace HC_y := hide (HC_y.out.below K)
    replace h_o := h_o.below K
    replace HC_o := hide (HC_o.out.below K)
    replace h_q := h_q.below K
    replace HC_q := hide (HC_q.out.below K)
    replace h_r := h_r.below K
    replace HC_r := hide (HC_r.out.below K)
    clear K t1 t2
    go_upto_region 9 with fail
    have lt_x := HC_x.out.lt
    have lt_o := HC_o.out.lt
    have lt_r := HC_r.out.lt
    go_cut [9, 10] from 64 (fun s9 s10 w' => ∃ b9 b10 ng ro rl, s9 = .pointer (some ⟨b9, 0, none⟩) ∧ s10 = .pointer (some ⟨b10, 0, none⟩) ∧ Cell2 w' b9 (.bool ng_r) (.slice ro_r rl_r rl_r) ∧ Cell2 w' b10 (.bool ng) (.slice ro rl rl) ∧ WNum 0 w' (.agg #[.bool ng, .slice ro rl rl]) N_y 1048576 ∧ b9 ≠ b10 ∧ w7.heap.size ≤ b9 ∧ w7.heap.size ≤ b10 ∧ Below w7.heap.size w7 w')
    case first =>
      have K : Below w7.heap.size w7 w7.drew := (Below.refl _ _).drew
      have p_r := HC_r.out.c0
      have q_r := HC_r.out.c1
      have p_y := HC_y.out.c0
      have q_y := HC_y.out.c1
      go_region_held3 (fun w' => w'.cell? ⟨b_q + 1, 0, none⟩ = some (.bool ng_r) ∧ w'.cell? ⟨b_q + 1, 1, none⟩ = some (.slice ro_r rl_r rl_r) ∧ w'.cell? ⟨w.heap.size + 1, 0, none⟩ = some (.bool ng_y) ∧ w'.cell? ⟨w.heap.size + 1, 1, none⟩ = some (.slice ao_y zs_y.length c_y))
        (first
          | with_reducible exact ⟨(HC_r.out.below K).c0, (HC_r.out.below K).c1, (HC_y.out.below K).c0, (HC_y.out.below K).c1⟩
          | exact ⟨(HC_r.out.below (by have ks := K.size; go_grown)).c0, (HC_r.out.below (by have ks := K.size; go_grown)).c1, (HC_y.out.below (by have ks := K.size; go_grown)).c0, (HC_y.out.below (by have ks := K.size; go_grown)).c1⟩)
        (first
          | (go_at_call 10; with_reducible refine (wnorm_any (h_y.arg.below (by have ks := K.size; go_grown)) (by omega)).mono ?_; rintro e wn ⟨v_t1, rfl, t1, hb⟩; obtain ⟨ng_t1, ro_t1, rl_t1, rfl⟩ := t1.told; replace K := below_trans' (a := w7) hb (by have ks := K.size; go_grown); revert hb; (first | (with_reducible refine after2d_k ?_; rintro ⟨Z1, Z2⟩ hb; have e10 : wn.cell? ⟨w7.heap.size, 0, none⟩ = some (.bool false) := Z1.c0; have e11 : wn.cell? ⟨w7.heap.size, 1, none⟩ = some (.slice none 0 0) := Z1.c1; have e12 : wn.frozen? ⟨w7.heap.size, 0, none⟩ = false := Z1.f0; have e13 : wn.frozen? ⟨w7.heap.size, 1, none⟩ = false := Z1.f1; have e14 : w7.heap.size < wn.heap.size := Z1.lt; have e20 : wn.cell? ⟨w7.heap.size + 1, 0, none⟩ = some (.bool false) := Z2.c0; have e21 : wn.cell? ⟨w7.heap.size + 1, 1, none⟩ = some (.slice none 0 0) := Z2.c1; have e22 : wn.frozen? ⟨w7.heap.size + 1, 0, none⟩ = false := Z2.f0; have e23 : wn.frozen? ⟨w7.heap.size + 1, 1, none⟩ = false := Z2.f1; have e24 : w7.heap.size + 1 < wn.heap.size := Z2.lt) | ((fail_if_success with_reducible refine after1d_k ?_); intro hb) | (with_reducible refine after1d_k ?_; rintro Z1 hb; have e10 : wn.cell? ⟨w7.heap.size, 0, none⟩ = some (.bool false) := Z1.c0; have e11 : wn.cell? ⟨w7.heap.size, 1, none⟩ = some (.slice none 0 0) := Z1.c1; have e12 : wn.frozen? ⟨w7.heap.size, 0, none⟩ = false := Z1.f0; have e13 : wn.frozen? ⟨w7.heap.size, 1, none⟩ = false := Z1.f1; have e14 : w7.heap.size < wn.heap.size := Z1.lt))))
      all_goals go_wp2_with fail
      all_goals go_meet
      all_goals first
        | (obtain ⟨c1, c2, kb, mv⟩ := two_aa K (.bool ng_r) (.slice ro_r rl_r rl_r) (.bool ng_t1) (.slice ro_t1 rl_t1 rl_t1) 25 25; exact ⟨_, _, _, _, _, rfl, rfl, c1, c2, mv t1, by omega, by have ks := K.size; omega, by have ks := K.size; omega, kb⟩)
        | (obtain ⟨c1, c2, kb, mv⟩ := two_aa K (.bool ng_t1) (.slice ro_t1 rl_t1 rl_t1) (.bool ng_r) (.slice ro_r rl_r rl_r) 25 25; exact ⟨_, _, _, _, _, rfl, rfl, c2, c1, mv t1, by omega, by have ks := K.size; omega, by have ks := K.size; omega, kb⟩)
        | (obtain ⟨c1, c2, ne, kb, mv⟩ := two_sa K Z1 (Nat.le_refl _) (.bool ng_r) (.slice ro_r rl_r rl_r) (.bool ng_t1) (.slice ro_t1 rl_t1 rl_t1) 25; exact ⟨_, _, _, _, _, rfl, rfl, c1, c2, mv t1 (by first | (simp; done) | (simp; omega)), ne, by have ks := K.size; omega, by have ks := K.size; omega, kb⟩)
        | (obtain ⟨c1, c2, ne, kb, mv⟩ := two_sa K Z1 (Nat.le_refl _) (.bool ng_t1) (.slice ro_t1 rl_t1 rl_t1) (.bool ng_r) (.slice ro_r rl_r rl_r) 25; exact ⟨_, _, _, _, _, rfl, rfl, c2, c1, mv t1 (by first | (simp; done) | (simp; omega)), fun e => ne e.symm, by have ks := K.size; omega, by have ks := K.size; omega, kb⟩)
        | (obtain ⟨c1, c2, kb, mv⟩ := two_ss K Z1 Z2 (Nat.le_refl _) (Nat.le_succ _) (by omega) (.bool ng_r) (.slice ro_r rl_r rl_r) (.bool ng_t1) (.slice ro_t1 rl_t1 rl_t1); exact ⟨_, _, _, _, _, rfl, rfl, c1, c2, mv t1 (by first | (simp; done) | (simp; omega)) (by first | (simp; done) | (simp; omega)), by omega, by have ks := K.size; omega, by have ks := K.size; omega, kb⟩)
        | (obtain ⟨c1, c2, kb, mv⟩ := two_ss K Z2 Z1 (Nat.le_succ _) (Nat.le_refl _) (by omega) (.bool ng_r) (.slice ro_r rl_r rl_r) (.bool ng_t1) (.slice ro_t1 rl_t1 rl_t1); exact ⟨_, _, _, _, _, rfl, rfl, c1, c2, mv t1 (by first | (simp; done) | (simp; omega)) (by first | (simp; done) | (simp; omega)), by omega, by have ks := K.size; omega, by have ks := K.size; omega, kb⟩)
    case rest =>
    obtain ⟨b_s, b_l, ng_l, ro_l, rl_l, rfl, rfl, C_s, C_l, h_l, ne, ge_s, ge_l, K⟩ := hcut
    rename World => w8
    replace KB := below_trans KB K
    replace h_x := h_x.below K
    replace HC_x := hide (HC_x.out.below K)
    replace h_y := h_y.below K
    replace HC_y := hide (HC_y.out.below K)
    replace h_o := h_o.below K
    replace HC_o := hide (HC_o.out.below K)
    replace h_q := h_q.below K
    replace HC_q := hide (HC_q.out.below K)
    replace h_r := h_r.below K
    replace HC_r := hide (HC_r.out.below K)
    have ge_w : w.heap.size ≤ w7.heap.size := by have h1 := lt_x; omega
    clear K
    have h_s := h_r
    have HC_s := hide C_s
    have HC_l := hide C_l
    clear C_s C_l HC_q HC_y h_y h_q
    have sr := h_r.sign
    have sl := h_l.sign
    have hlt : (if N_x.tmod N_y < 0 then -N_x.tmod N_y else N_x.tmod N_y) < (if N_y < 0 then -N_y else N_y) := tmod_lt hy0
    have hsg : N_x.tmod N_y = 0 ∨ sgn (N_x.tmod N_y) 0 = sgn N_x 0 := tmod_sgn N_x N_y
    clear eqr s0 s1 s2
    generalize N_x.tmod N_y = R at *
    have p_s := HC_s.out.c0
    have q_s := HC_s.out.c1
    have p_l := HC_l.out.c0
    have q_l := HC_l.out.c1
    rcases Bool.eq_false_or_eq_true ng_r with er | er <;> rcases Bool.eq_false_or_eq_true ng_l with el | el
    ·
      have vr := sr.1 er
      have vl := sl.1 el
      subst er
      subst el
      rw [if_pos vr, if_pos vl] at hlt
      go_wp2_with fail
      with_reducible refine (wneg_any h_s.arg (by omega)).mono ?_
      rintro e w9 ⟨v_t, rfl, h_t, hb⟩
      obtain ⟨ng_t, ro_t, rl_t, rfl⟩ := h_t.told
      clear p_s q_s p_l q_l
      replace KB := below_trans KB hb
      replace h_x := h_x.below hb
      replace HC_x := hide (HC_x.out.below hb)
      replace h_o := h_o.below hb
      replace HC_o := hide (HC_o.out.below hb)
      replace h_r := h_r.below hb
      replace HC_r := hide (HC_r.out.below hb)
      replace h_s := h_s.below hb
      replace HC_s := hide (HC_s.out.below hb)
      replace h_l := h_l.below hb
      replace HC_l := hide (HC_l.out.below hb)
      clear hb
      have d0 := HC_s.out.c0
      have d1 := HC_s.out.c1
      have d2 := HC_s.out.f0
      have d3 := HC_s.out.f1
      go_upto_region 12 with fail
      clear d0 d1 d2 d3
      replace KB := below_put2 KB (b := b_s) (by omega) (.bool ng_t) (.slice ro_t rl_t rl_t)
      replace HC_x := hide (HC_x.out.away (c := b_s) (by first | omega | (intro e; exact ne e) | (intro e; exact ne e.symm)) (.bool ng_t) (.slice ro_t rl_t rl_t))
      replace h_o := h_o.putc HC_s.out (.bool ng_t) (.slice ro_t rl_t rl_t)
      replace HC_o := hide (HC_o.out.away (c := b_s) (by first | omega | (intro e; exact ne e) | (intro e; exact ne e.symm)) (.bool ng_t) (.slice ro_t rl_t rl_t))
      replace h_r := h_r.putc HC_s.out (.bool ng_t) (.slice ro_t rl_t rl_t)
      replace HC_r := hide (HC_r.out.away (c := b_s) (by first | omega | (intro e; exact ne e) | (intro e; exact ne e.symm)) (.bool ng_t) (.slice ro_t rl_t rl_t))
      replace h_l := h_l.putc HC_s.out (.bool ng_t) (.slice ro_t rl_t rl_t)
      replace HC_l := hide (HC_l.out.away (c := b_s) (by first | omega | (intro e; exact ne e) | (intro e; exact ne e.symm)) (.bool ng_t) (.slice ro_t rl_t rl_t))
      replace h_x := H0_x.out.below KB
      replace h_t := h_t.putc HC_s.out (.bool ng_t) (.slice ro_t rl_t rl_t)
      replace HC_s := hide (HC_s.out.put (.bool ng_t) (.slice ro_t rl_t rl_t))
      replace h_s := h_t
      clear h_t
      generalize (w9.setCell ⟨b_s, 0, none⟩ (.bool ng_t)).setCell ⟨b_s, 1, none⟩ (.slice ro_t rl_t rl_t) = w10 at *
      obtain ⟨ng_s', hng⟩ : ∃ z, z = ng_t := ⟨_, rfl⟩
      obtain ⟨ro_s', hro⟩ : ∃ z, z = ro_t := ⟨_, rfl⟩
      obtain ⟨rl_s', hrl⟩ : ∃ z, z = rl_t := ⟨_, rfl⟩
      subst hng hro hrl
      have p_s := HC_s.out.c0
      have q_s := HC_s.out.c1
      have p_l := HC_l.out.c0
      have q_l := HC_l.out.c1
      go_wp2_with fail
      with_reducible refine (wneg_any h_l.arg (by omega)).mono ?_
      rintro e w11 ⟨v_t, rfl, h_t, hb⟩
      obtain ⟨ng_t, ro_t, rl_t, rfl⟩ := h_t.told
      clear p_s q_s p_l q_l
      replace KB := below_trans KB hb
      replace h_x := h_x.below hb
      replace HC_x := hide (HC_x.out.below hb)
      replace h_o := h_o.below hb
      replace HC_o := hide (HC_o.out.below hb)
      replace h_r := h_r.below hb
      replace HC_r := hide (HC_r.out.below hb)
      replace h_s := h_s.below hb
      replace HC_s := hide (HC_s.out.below hb)
      replace h_l := h_l.below hb
      replace HC_l := hide (HC_l.out.below hb)
      clear hb
      have d0 := HC_l.out.c0
      have d1 := HC_l.out.c1
      have d2 := HC_l.out.f0
      have d3 := HC_l.out.f1
      go_upto_region 14 with fail
      clear d0 d1 d2 d3
      replace KB := below_put2 KB (b := b_l) (by omega) (.bool ng_t) (.slice ro_t rl_t rl_t)
      replace HC_x := hide (HC_x.out.away (c := b_l) (by first | omega | (intro e; exact ne e) | (intro e; exact ne e.symm)) (.bool ng_t) (.slice ro_t rl_t rl_t))
      replace h_o := h_o.putc HC_l.out (.bool ng_t) (.slice ro_t rl_t rl_t)
      replace HC_o := hide (HC_o.out.away (c := b_l) (by first | omega | (intro e; exact ne e) | (intro e; exact ne e.symm)) (.bool ng_t) (.slice ro_t rl_t rl_t))
      replace h_r := h_r.putc HC_l.out (.bool ng_t) (.slice ro_t rl_t rl_t)
      replace HC_r := hide (HC_r.out.away (c := b_l) (by first | omega | (intro e; exact ne e) | (intro e; exact ne e.symm)) (.bool ng_t) (.slice ro_t rl_t rl_t))
      replace h_s := h_s.putc HC_l.out (.bool ng_t) (.slice ro_t rl_t rl_t)
      replace HC_s := hide (HC_s.out.away (c := b_l) (by first | omega | (intro e; exact ne e) | (intro e; exact ne e.symm)) (.bool ng_t) (.slice ro_t rl_t rl_t))
      replace h_x := H0_x.out.below KB
      replace h_t := h_t.putc HC_l.out (.bool ng_t) (.slice ro_t rl_t rl_t)
      replace HC_l := hide (HC_l.out.put (.bool ng_t) (.slice ro_t rl_t rl_t))
      replace h_l := h_t
      clear h_t
      generalize (w11.setCell ⟨b_l, 0, none⟩ (.bool ng_t)).setCell ⟨b_l, 1, none⟩ (.slice ro_t rl_t rl_t) = w12 at *
      obtain ⟨ng_l', hng⟩ : ∃ z, z = ng_t := ⟨_, rfl⟩
      obtain ⟨ro_l', hro⟩ : ∃ z, z = ro_t := ⟨_, rfl⟩
      obtain ⟨rl_l', hrl⟩ : ∃ z, z = rl_t := ⟨_, rfl⟩
      subst hng hro hrl
      rcases Int.lt_trichotomy R 0 with hR | hR | hR
      ·
        have cAB : sgn (-R) (-N_y) = -1 := sgn_lt (by omega)
        have cR : sgn R 0 = -1 := sgn_lt hR
        have cX : sgn N_x 0 = -1 := by rw [← hsg.resolve_left (by omega)]; exact cR
        have HcA := hide cAB
        have HcR := hide cR
        have HcX := hide cX
        clear cAB cR cX
        go_upto_region 14 with fail
        have K : Below w12.heap.size w12 w12.drew := (Below.refl _ _).drew
        have p_s := HC_s.out.c0
        have q_s := HC_s.out.c1
        have p_l := HC_l.out.c0
        have q_l := HC_l.out.c1
        have p_r := HC_r.out.c0
        have q_r := HC_r.out.c1
        have p_o := HC_o.out.c0
        have q_o := HC_o.out.c1
        have p_x := HC_x.out.c0
        have q_x := HC_x.out.c1
        go_region_held3 (fun w' => w'.cell? ⟨b_s, 0, none⟩ = some (.bool ng_s') ∧ w'.cell? ⟨b_s, 1, none⟩ = some (.slice ro_s' rl_s' rl_s') ∧ w'.cell? ⟨b_l, 0, none⟩ = some (.bool ng_l') ∧ w'.cell? ⟨b_l, 1, none⟩ = some (.slice ro_l' rl_l' rl_l') ∧ w'.cell? ⟨b_q + 1, 0, none⟩ = some (.bool true) ∧ w'.cell? ⟨b_q + 1, 1, none⟩ = some (.slice ro_r rl_r rl_r) ∧ w'.cell? ⟨b_o, 0, none⟩ = some (.bool ng_o) ∧ w'.cell? ⟨b_o, 1, none⟩ = some (.slice ro_o rl_o rl_o) ∧ w'.cell? ⟨w.heap.size, 0, none⟩ = some (.bool ng_x) ∧ w'.cell? ⟨w.heap.size, 1, none⟩ = some (.slice ao_x zs_x.length c_x))
          (first
            | with_reducible exact ⟨(HC_s.out.below K).c0, (HC_s.out.below K).c1, (HC_l.out.below K).c0, (HC_l.out.below K).c1, (HC_r.out.below K).c0, (HC_r.out.below K).c1, (HC_o.out.below K).c0, (HC_o.out.below K).c1, (HC_x.out.below K).c0, (HC_x.out.below K).c1⟩
            | exact ⟨(HC_s.out.below (by have ks := K.size; go_grown)).c0, (HC_s.out.below (by have ks := K.size; go_grown)).c1, (HC_l.out.below (by have ks := K.size; go_grown)).c0, (HC_l.out.below (by have ks := K.size; go_grown)).c1, (HC_r.out.below (by have ks := K.size; go_grown)).c0, (HC_r.out.below (by have ks := K.size; go_grown)).c1, (HC_o.out.below (by have ks := K.size; go_grown)).c0, (HC_o.out.below (by have ks := K.size; go_grown)).c1, (HC_x.out.below (by have ks := K.size; go_grown)).c0, (HC_x.out.below (by have ks := K.size; go_grown)).c1⟩
            | go_keep)
          (first
            | (go_at_call 19; first | ((with_reducible refine (wcmp_told HcA.out (h_s.arg.below K) (h_l.arg.below K) (by omega) (by omega)).mono ?_); rintro e wn ⟨rfl, hb⟩; replace K := below_trans K hb; clear hb) | ((with_reducible refine (wcmp_told HcR.out (h_r.arg.below K) (h_o.arg.below K) (by omega) (by omega)).mono ?_); rintro e wn ⟨rfl, hb⟩; replace K := below_trans K hb; clear hb) | ((with_reducible refine (wcmp_told HcX.out (h_x.arg.below K) (h_o.arg.below K) (by omega) (by omega)).mono ?_); rintro e wn ⟨rfl, hb⟩; replace K := below_trans K hb; clear hb))
            | (go_at_call 18; first | ((with_reducible refine (wlives_any).mono ?_); rintro e wn ⟨rfl, hb⟩; replace K := below_trans K hb; clear hb)))
        clear p_s q_s p_l q_l p_r q_r p_o q_o p_x q_x
        all_goals go_wp2
        all_goals go_ret
        all_goals exact ⟨rfl, below_trans KB K⟩
      · omega
      · omega
    ·
      have vr := sr.1 er
      have vl := sl.2 el
      subst er
      subst el
      rw [if_pos vr, if_neg (by omega)] at hlt
      go_wp2_with fail
      with_reducible refine (wneg_any h_s.arg (by omega)).mono ?_
      rintro e w9 ⟨v_t, rfl, h_t, hb⟩
      obtain ⟨ng_t, ro_t, rl_t, rfl⟩ := h_t.told
      clear p_s q_s p_l q_l
      replace KB := below_trans KB hb
      replace h_x := h_x.below hb
      replace HC_x := hide (HC_x.out.below hb)
      replace h_o := h_o.below hb
      replace HC_o := hide (HC_o.out.below hb)
      replace h_r := h_r.below hb
      replace HC_r := hide (HC_r.out.below hb)
      replace h_s := h_s.below hb
      replace HC_s := hide (HC_s.out.below hb)
      replace h_l := h_l.below hb
      replace HC_l := hide (HC_l.out.below hb)
      clear hb
      have d0 := HC_s.out.c0
      have d1 := HC_s.out.c1
      have d2 := HC_s.out.f0
      have d3 := HC_s.out.f1
      go_upto_region 12 with fail
      clear d0 d1 d2 d3
      replace KB := below_put2 KB (b := b_s) (by omega) (.bool ng_t) (.slice ro_t rl_t rl_t)
      replace HC_x := hide (HC_x.out.away (c := b_s) (by first | omega | (intro e; exact ne e) | (intro e; exact ne e.symm)) (.bool ng_t) (.slice ro_t rl_t rl_t))
      replace h_o := h_o.putc HC_s.out (.bool ng_t) (.slice ro_t rl_t rl_t)
      replace HC_o := hide (HC_o.out.away (c := b_s) (by first | omega | (intro e; exact ne e) | (intro e; exact ne e.symm)) (.bool ng_t) (.slice ro_t rl_t rl_t))
      replace h_r := h_r.putc HC_s.out (.bool ng_t) (.slice ro_t rl_t rl_t)
      replace HC_r := hide (HC_r.out.away (c := b_s) (by first | omega | (intro e; exact ne e) | (intro e; exact ne e.symm)) (.bool ng_t) (.slice ro_t rl_t rl_t))
      replace h_l := h_l.putc HC_s.out (.bool ng_t) (.slice ro_t rl_t rl_t)
      replace HC_l := hide (HC_l.out.away (c := b_s) (by first | omega | (intro e; exact ne e) | (intro e; exact ne e.symm)) (.bool ng_t) (.slice ro_t rl_t rl_t))
      replace h_x := H0_x.out.below KB
      replace h_t := h_t.putc HC_s.out (.bool ng_t) (.slice ro_t rl_t rl_t)
      replace HC_s := hide (HC_s.out.put (.bool ng_t) (.slice ro_t rl_t rl_t))
      replace h_s := h_t
      clear h_t
      generalize (w9.setCell ⟨b_s, 0, none⟩ (.bool ng_t)).setCell ⟨b_s, 1, none⟩ (.slice ro_t rl_t rl_t) = w10 at *
      obtain ⟨ng_s', hng⟩ : ∃ z, z = ng_t := ⟨_, rfl⟩
      obtain ⟨ro_s', hro⟩ : ∃ z, z = ro_t := ⟨_, rfl⟩
      obtain ⟨rl_s', hrl⟩ : ∃ z, z = rl_t := ⟨_, rfl⟩
      subst hng hro hrl
      have p_s := HC_s.out.c0
      have q_s := HC_s.out.c1
      have p_l := HC_l.out.c0
      have q_l := HC_l.out.c1
      clear p_s q_s p_l q_l
      rcases Int.lt_trichotomy R 0 with hR | hR | hR
      ·
        have cAB : sgn (-R) (N_y) = -1 := sgn_lt (by omega)
        have cR : sgn R 0 = -1 := sgn_lt hR
        have cX : sgn N_x 0 = -1 := by rw [← hsg.resolve_left (by omega)]; exact cR
        have HcA := hide cAB
        have HcR := hide cR
        have HcX := hide cX
        clear cAB cR cX
        have p_s := HC_s.out.c0
        have q_s := HC_s.out.c1
        have p_l := HC_l.out.c0
        have q_l := HC_l.out.c1
        go_upto_region 14 with fail
        clear p_s q_s p_l q_l
        have K : Below w10.heap.size w10 w10.drew := (Below.refl _ _).drew
        have p_s := HC_s.out.c0
        have q_s := HC_s.out.c1
        have p_l := HC_l.out.c0
        have q_l := HC_l.out.c1
        have p_r := HC_r.out.c0
        have q_r := HC_r.out.c1
        have p_o := HC_o.out.c0
        have q_o := HC_o.out.c1
        have p_x := HC_x.out.c0
        have q_x := HC_x.out.c1
        go_region_held3 (fun w' => w'.cell? ⟨b_s, 0, none⟩ = some (.bool ng_s') ∧ w'.cell? ⟨b_s, 1, none⟩ = some (.slice ro_s' rl_s' rl_s') ∧ w'.cell? ⟨b_l, 0, none⟩ = some (.bool false) ∧ w'.cell? ⟨b_l, 1, none⟩ = some (.slice ro_l rl_l rl_l) ∧ w'.cell? ⟨b_q + 1, 0, none⟩ = some (.bool true) ∧ w'.cell? ⟨b_q + 1, 1, none⟩ = some (.slice ro_r rl_r rl_r) ∧ w'.cell? ⟨b_o, 0, none⟩ = some (.bool ng_o) ∧ w'.cell? ⟨b_o, 1, none⟩ = some (.slice ro_o rl_o rl_o) ∧ w'.cell? ⟨w.heap.size, 0, none⟩ = some (.bool ng_x) ∧ w'.cell? ⟨w.heap.size, 1, none⟩ = some (.slice ao_x zs_x.length c_x))
          (first
            | with_reducible exact ⟨(HC_s.out.below K).c0, (HC_s.out.below K).c1, (HC_l.out.below K).c0, (HC_l.out.below K).c1, (HC_r.out.below K).c0, (HC_r.out.below K).c1, (HC_o.out.below K).c0, (HC_o.out.below K).c1, (HC_x.out.below K).c0, (HC_x.out.below K).c1⟩
            | exact ⟨(HC_s.out.below (by have ks := K.size; go_grown)).c0, (HC_s.out.below (by have ks := K.size; go_grown)).c1, (HC_l.out.below (by have ks := K.size; go_grown)).c0, (HC_l.out.below (by have ks := K.size; go_grown)).c1, (HC_r.out.below (by have ks := K.size; go_grown)).c0, (HC_r.out.below (by have ks := K.size; go_grown)).c1, (HC_o.out.below (by have ks := K.size; go_grown)).c0, (HC_o.out.below (by have ks := K.size; go_grown)).c1, (HC_x.out.below (by have ks := K.size; go_grown)).c0, (HC_x.out.below (by have ks := K.size; go_grown)).c1⟩
            | go_keep)
          (first
            | (go_at_call 19; first | ((with_reducible refine (wcmp_told HcA.out (h_s.arg.below K) (h_l.arg.below K) (by omega) (by omega)).mono ?_); rintro e wn ⟨rfl, hb⟩; replace K := below_trans K hb; clear hb) | ((with_reducible refine (wcmp_told HcR.out (h_r.arg.below K) (h_o.arg.below K) (by omega) (by omega)).mono ?_); rintro e wn ⟨rfl, hb⟩; replace K := below_trans K hb; clear hb) | ((with_reducible refine (wcmp_told HcX.out (h_x.arg.below K) (h_o.arg.below K) (by omega) (by omega)).mono ?_); rintro e wn ⟨rfl, hb⟩; replace K := below_trans K hb; clear hb))
            | (go_at_call 18; first | ((with_reducible refine (wlives_any).mono ?_); rintro e wn ⟨rfl, hb⟩; replace K := below_trans K hb; clear hb)))
        clear p_s q_s p_l q_l p_r q_r p_o q_o p_x q_x
        all_goals go_wp2
        all_goals go_ret
        all_goals exact ⟨rfl, below_trans KB K⟩
      · omega
      · omega
    ·
      have vr := sr.2 er
      have vl := sl.1 el
      subst er
      subst el
      rw [if_neg (by omega), if_pos vl] at hlt
      go_wp2_with fail
      with_reducible refine (wneg_any h_l.arg (by omega)).mono ?_
      rintro e w9 ⟨v_t, rfl, h_t, hb⟩
      obtain ⟨ng_t, ro_t, rl_t, rfl⟩ := h_t.told
      clear p_s q_s p_l q_l
      replace KB := below_trans KB hb
      replace h_x := h_x.below hb
      replace HC_x := hide (HC_x.out.below hb)
      replace h_o := h_o.below hb
      replace HC_o := hide (HC_o.out.below hb)
      replace h_r := h_r.below hb
      replace HC_r := hide (HC_r.out.below hb)
      replace h_s := h_s.below hb
      replace HC_s := hide (HC_s.out.below hb)
      replace h_l := h_l.below hb
      replace HC_l := hide (HC_l.out.below hb)
      clear hb
      have d0 := HC_l.out.c0
      have d1 := HC_l.out.c1
      have d2 := HC_l.out.f0
      have d3 := HC_l.out.f1
      go_upto_region 14 with fail
      clear d0 d1 d2 d3
      replace KB := below_put2 KB (b := b_l) (by omega) (.bool ng_t) (.slice ro_t rl_t rl_t)
      replace HC_x := hide (HC_x.out.away (c := b_l) (by first | omega | (intro e; exact ne e) | (intro e; exact ne e.symm)) (.bool ng_t) (.slice ro_t rl_t rl_t))
      replace h_o := h_o.putc HC_l.out (.bool ng_t) (.slice ro_t rl_t rl_t)
      replace HC_o := hide (HC_o.out.away (c := b_l) (by first | omega | (intro e; exact ne e) | (intro e; exact ne e.symm)) (.bool ng_t) (.slice ro_t rl_t rl_t))
      replace h_r := h_r.putc HC_l.out (.bool ng_t) (.slice ro_t rl_t rl_t)
      replace HC_r := hide (HC_r.out.away (c := b_l) (by first | omega | (intro e; exact ne e) | (intro e; exact ne e.symm)) (.bool ng_t) (.slice ro_t rl_t rl_t))
      replace h_s := h_s.putc HC_l.out (.bool ng_t) (.slice ro_t rl_t rl_t)
      replace HC_s := hide (HC_s.out.away (c := b_l) (by first | omega | (intro e; exact ne e) | (intro e; exact ne e.symm)) (.bool ng_t) (.slice ro_t rl_t rl_t))
      replace h_x := H0_x.out.below KB
      replace h_t := h_t.putc HC_l.out (.bool ng_t) (.slice ro_t rl_t rl_t)
      replace HC_l := hide (HC_l.out.put (.bool ng_t) (.slice ro_t rl_t rl_t))
      replace h_l := h_t
      clear h_t
      generalize (w9.setCell ⟨b_l, 0, none⟩ (.bool ng_t)).setCell ⟨b_l, 1, none⟩ (.slice ro_t rl_t rl_t) = w10 at *
      obtain ⟨ng_l', hng⟩ : ∃ z, z = ng_t := ⟨_, rfl⟩
      obtain ⟨ro_l', hro⟩ : ∃ z, z = ro_t := ⟨_, rfl⟩
      obtain ⟨rl_l', hrl⟩ : ∃ z, z = rl_t := ⟨_, rfl⟩
      subst hng hro hrl
      rcases Int.lt_trichotomy R 0 with hR | hR | hR
      · omega
      ·
        have cAB : sgn (R) (-N_y) = -1 := sgn_lt (by omega)
        have cR : sgn R 0 = 0 := sgn_eq hR
        have HcA := hide cAB
        have HcR := hide cR
        clear cAB cR
        go_upto_region 14 with fail
        have K : Below w10.heap.size w10 w10.drew := (Below.refl _ _).drew
        refine wp_region_noPanic ?_
        refine wp_region_held_drew (S := fun w' => w'.cell? ⟨b_s, 0, none⟩ = some (.bool false) ∧ w'.cell? ⟨b_s, 1, none⟩ = some (.slice ro_r rl_r rl_r) ∧ w'.cell? ⟨b_l, 0, none⟩ = some (.bool ng_l') ∧ w'.cell? ⟨b_l, 1, none⟩ = some (.slice ro_l' rl_l' rl_l') ∧ w'.cell? ⟨b_q + 1, 0, none⟩ = some (.bool false) ∧ w'.cell? ⟨b_q + 1, 1, none⟩ = some (.slice ro_r rl_r rl_r) ∧ w'.cell? ⟨b_o, 0, none⟩ = some (.bool ng_o) ∧ w'.cell? ⟨b_o, 1, none⟩ = some (.slice ro_o rl_o rl_o) ∧ w'.cell? ⟨w.heap.size, 0, none⟩ = some (.bool ng_x) ∧ w'.cell? ⟨w.heap.size, 1, none⟩ = some (.slice ao_x zs_x.length c_x)) (by kernel_rfl) ⟨(HC_s.out.below K).c0, (HC_s.out.below K).c1, (HC_l.out.below K).c0, (HC_l.out.below K).c1, (HC_r.out.below K).c0, (HC_r.out.below K).c1, (HC_o.out.below K).c0, (HC_o.out.below K).c1, (HC_x.out.below K).c0, (HC_x.out.below K).c1⟩ (fun hHeld => ?_)
        refine wpAnyH_take (i := 0) (oi := ({ dst := some 75, op := Go.Op.load 25 (Go.Operand.tmp 9), type := 25, pos := _, after := #[], guard := none } : Oper)) (v := ?v1000) rfl (by kernel_rfl) (by kernel_rfl) (by kernel_rfl) (fun _ _ _ h => h) (Or.inl ⟨by rfl, ?hy1000⟩) (by assumption) ?_
        case hy1000 => (intro w hSw; (try dsimp only at hSw); go_simp; (try with_reducible rfl))
        (try simp only [Act.put, List.setIfInBounds_toArray, List.set_cons_zero, List.set_cons_succ])
        refine wpAnyH_take (i := 1) (oi := ({ dst := some 76, op := Go.Op.load 25 (Go.Operand.tmp 10), type := 25, pos := _, after := #[], guard := none } : Oper)) (v := ?v1001) rfl (by kernel_rfl) (by kernel_rfl) (by kernel_rfl) (fun _ _ _ h => h) (Or.inl ⟨by rfl, ?hy1001⟩) (by assumption) ?_
        case hy1001 => (intro w hSw; (try dsimp only at hSw); go_simp; (try with_reducible rfl))
        (try simp only [Act.put, List.setIfInBounds_toArray, List.set_cons_zero, List.set_cons_succ])
        refine wpAnyH_ready (rs := [2]) (by kernel_rfl) (by simp) ?_
        refine AllReadyH.cons (o := ({ dst := some 77, op := Go.Op.call { callee := Go.Callee.value (Go.Operand.func 19), args := #[Go.Operand.tmp 75, Go.Operand.tmp 76], argTypes := #[25, 25] }, type := 3, pos := _, after := #[{ on := 0, ground := Go.Ground.data }, { on := 1, ground := Go.Ground.data }], guard := none } : Oper)) rfl (fun K0 hK => ?_) AllReadyH.nil
        go_simp
        (with_reducible refine (wcmp_told HcA.out (h_s.arg.below K) (h_l.arg.below K) (by omega) (by omega)).mono ?_); rintro e wn ⟨rfl, hb⟩; replace K := below_trans K hb; clear hb
        (try go_wp2_with fail)
        refine hK.out _ _ ⟨(HC_s.out.below K).c0, (HC_s.out.below K).c1, (HC_l.out.below K).c0, (HC_l.out.below K).c1, (HC_r.out.below K).c0, (HC_r.out.below K).c1, (HC_o.out.below K).c0, (HC_o.out.below K).c1, (HC_x.out.below K).c0, (HC_x.out.below K).c1⟩ (fun hHeld => ?_)
        clear hK K0
        (try simp only [Act.put, List.setIfInBounds_toArray, List.set_cons_zero, List.set_cons_succ])
        refine wpAnyH_take (i := 3) (oi := ({ dst := some 78, op := Go.Op.binOp Go.BinOp.lss 3 (Go.Operand.tmp 77) (Go.Operand.const (Go.Value.int Go.IntKind.i64 0)) 3, type := 4, pos := _, after := #[{ on := 2, ground := Go.Ground.data }], guard := none } : Oper)) (v := ?v1003) rfl (by kernel_rfl) (by kernel_rfl) (by kernel_rfl) (fun _ _ _ h => h) (Or.inl ⟨by rfl, ?hy1003⟩) (by assumption) ?_
        case hy1003 => (intro w hSw; (try dsimp only at hSw); go_simp; (try with_reducible rfl))
        (try simp only [Act.put, List.setIfInBounds_toArray, List.set_cons_zero, List.set_cons_succ])
        refine wpAnyH_take (i := 4) (oi := ({ dst := some 79, op := Go.Op.move (Go.Operand.tmp 78), type := 4, pos := _, after := #[{ on := 3, ground := Go.Ground.data }, { on := 2, ground := Go.Ground.chain }], guard := none } : Oper)) (v := ?v1004) rfl (by kernel_rfl) (by kernel_rfl) (by kernel_rfl) (fun _ _ _ h => h) (Or.inl ⟨by rfl, ?hy1004⟩) (by assumption) ?_
        case hy1004 => (intro w hSw; (try dsimp only at hSw); go_simp; (try with_reducible rfl))
        (try simp only [Act.put, List.setIfInBounds_toArray, List.set_cons_zero, List.set_cons_succ])
        refine wpAnyH_take (i := 5) (oi := ({ dst := some 80, op := Go.Op.load 25 (Go.Operand.tmp 7), type := 25, pos := _, after := #[{ on := 4, ground := Go.Ground.guard }], guard := some (4, true) } : Oper)) (v := ?v1005) rfl (by kernel_rfl) (by kernel_rfl) (by kernel_rfl) (fun _ _ _ h => h) (Or.inl ⟨by rfl, ?hy1005⟩) (by assumption) ?_
        case hy1005 => (intro w hSw; (try dsimp only at hSw); go_simp; (try with_reducible rfl))
        (try simp only [Act.put, List.setIfInBounds_toArray, List.set_cons_zero, List.set_cons_succ])
        refine wpAnyH_take (i := 6) (oi := ({ dst := some 81, op := Go.Op.load 25 (Go.Operand.tmp 5), type := 25, pos := _, after := #[{ on := 4, ground := Go.Ground.guard }], guard := some (4, true) } : Oper)) (v := ?v1006) rfl (by kernel_rfl) (by kernel_rfl) (by kernel_rfl) (fun _ _ _ h => h) (Or.inl ⟨by rfl, ?hy1006⟩) (by assumption) ?_
        case hy1006 => (intro w hSw; (try dsimp only at hSw); go_simp; (try with_reducible rfl))
        (try simp only [Act.put, List.setIfInBounds_toArray, List.set_cons_zero, List.set_cons_succ])
        refine wpAnyH_ready (rs := [7]) (by kernel_rfl) (by simp) ?_
        refine AllReadyH.cons (o := ({ dst := some 82, op := Go.Op.call { callee := Go.Callee.value (Go.Operand.func 19), args := #[Go.Operand.tmp 80, Go.Operand.tmp 81], argTypes := #[25, 25] }, type := 3, pos := _, after := #[{ on := 5, ground := Go.Ground.data }, { on := 6, ground := Go.Ground.data }, { on := 4, ground := Go.Ground.chain }, { on := 4, ground := Go.Ground.guard }], guard := some (4, true) } : Oper)) rfl (fun K0 hK => ?_) AllReadyH.nil
        go_simp
        (with_reducible refine (wcmp_told HcR.out (h_r.arg.below K) (h_o.arg.below K) (by omega) (by omega)).mono ?_); rintro e wn ⟨rfl, hb⟩; replace K := below_trans K hb; clear hb
        (try go_wp2_with fail)
        refine hK.out _ _ ⟨(HC_s.out.below K).c0, (HC_s.out.below K).c1, (HC_l.out.below K).c0, (HC_l.out.below K).c1, (HC_r.out.below K).c0, (HC_r.out.below K).c1, (HC_o.out.below K).c0, (HC_o.out.below K).c1, (HC_x.out.below K).c0, (HC_x.out.below K).c1⟩ (fun hHeld => ?_)
        clear hK K0
        (try simp only [Act.put, List.setIfInBounds_toArray, List.set_cons_zero, List.set_cons_succ])
        refine wpAnyH_take (i := 8) (oi := ({ dst := some 83, op := Go.Op.binOp Go.BinOp.eql 3 (Go.Operand.tmp 82) (Go.Operand.const (Go.Value.int Go.IntKind.i64 0)) 3, type := 4, pos := _, after := #[{ on := 7, ground := Go.Ground.data }, { on := 4, ground := Go.Ground.guard }], guard := some (4, true) } : Oper)) (v := ?v1008) rfl (by kernel_rfl) (by kernel_rfl) (by kernel_rfl) (fun _ _ _ h => h) (Or.inl ⟨by rfl, ?hy1008⟩) (by assumption) ?_
        case hy1008 => (intro w hSw; (try dsimp only at hSw); go_simp; (try with_reducible rfl))
        (try simp only [Act.put, List.setIfInBounds_toArray, List.set_cons_zero, List.set_cons_succ])
        refine wpAnyH_take (i := 9) (oi := ({ dst := some 84, op := Go.Op.move (Go.Operand.tmp 83), type := 4, pos := _, after := #[{ on := 8, ground := Go.Ground.data }, { on := 7, ground := Go.Ground.chain }, { on := 4, ground := Go.Ground.guard }], guard := some (4, true) } : Oper)) (v := ?v1009) rfl (by kernel_rfl) (by kernel_rfl) (by kernel_rfl) (fun _ _ _ h => h) (Or.inl ⟨by rfl, ?hy1009⟩) (by assumption) ?_
        case hy1009 => (intro w hSw; (try dsimp only at hSw); go_simp; (try with_reducible rfl))
        (try simp only [Act.put, List.setIfInBounds_toArray, List.set_cons_zero, List.set_cons_succ])
        refine wpAnyH_take (i := 10) (oi := ({ dst := some 85, op := Go.Op.load 25 (Go.Operand.tmp 7), type := 25, pos := _, after := #[{ on := 9, ground := Go.Ground.guard }], guard := some (9, false) } : Oper)) (v := undef) rfl (by kernel_rfl) (by kernel_rfl) (by kernel_rfl) (fun _ _ _ h => h) (Or.inr ⟨by rfl, rfl⟩) (by assumption) ?_
        (try simp only [Act.put, List.setIfInBounds_toArray, List.set_cons_zero, List.set_cons_succ])
        refine wpAnyH_take (i := 11) (oi := ({ dst := some 86, op := Go.Op.load 25 (Go.Operand.tmp 5), type := 25, pos := _, after := #[{ on := 9, ground := Go.Ground.guard }], guard := some (9, false) } : Oper)) (v := undef) rfl (by kernel_rfl) (by kernel_rfl) (by kernel_rfl) (fun _ _ _ h => h) (Or.inr ⟨by rfl, rfl⟩) (by assumption) ?_
        (try simp only [Act.put, List.setIfInBounds_toArray, List.set_cons_zero, List.set_cons_succ])
        refine wpAnyH_take (i := 12) (oi := ({ dst := some 87, op := Go.Op.call { callee := Go.Callee.value (Go.Operand.func 19), args := #[Go.Operand.tmp 85, Go.Operand.tmp 86], argTypes := #[25, 25] }, type := 3, pos := _, after := #[{ on := 10, ground := Go.Ground.data }, { on := 11, ground := Go.Ground.data }, { on := 9, ground := Go.Ground.chain }, { on := 9, ground := Go.Ground.guard }], guard := some (9, false) } : Oper)) (v := undef) rfl (by kernel_rfl) (by kernel_rfl) (by kernel_rfl) (fun _ _ _ h => h) (Or.inr ⟨by rfl, rfl⟩) (by assumption) ?_
        (try simp only [Act.put, List.setIfInBounds_toArray, List.set_cons_zero, List.set_cons_succ])
        refine wpAnyH_take (i := 13) (oi := ({ dst := some 88, op := Go.Op.load 25 (Go.Operand.tmp 2), type := 25, pos := _, after := #[{ on := 9, ground := Go.Ground.guard }], guard := some (9, false) } : Oper)) (v := undef) rfl (by kernel_rfl) (by kernel_rfl) (by kernel_rfl) (fun _ _ _ h => h) (Or.inr ⟨by rfl, rfl⟩) (by assumption) ?_
        (try simp only [Act.put, List.setIfInBounds_toArray, List.set_cons_zero, List.set_cons_succ])
        refine wpAnyH_take (i := 14) (oi := ({ dst := some 89, op := Go.Op.load 25 (Go.Operand.tmp 5), type := 25, pos := _, after := #[{ on := 9, ground := Go.Ground.guard }], guard := some (9, false) } : Oper)) (v := undef) rfl (by kernel_rfl) (by kernel_rfl) (by kernel_rfl) (fun _ _ _ h => h) (Or.inr ⟨by rfl, rfl⟩) (by assumption) ?_
        (try simp only [Act.put, List.setIfInBounds_toArray, List.set_cons_zero, List.set_cons_succ])
        refine wpAnyH_take (i := 15) (oi := ({ dst := some 90, op := Go.Op.call { callee := Go.Callee.value (Go.Operand.func 19), args := #[Go.Operand.tmp 88, Go.Operand.tmp 89], argTypes := #[25, 25] }, type := 3, pos := _, after := #[{ on := 13, ground := Go.Ground.data }, { on := 14, ground := Go.Ground.data }, { on := 12, ground := Go.Ground.chain }, { on := 9, ground := Go.Ground.guard }], guard := some (9, false) } : Oper)) (v := undef) rfl (by kernel_rfl) (by kernel_rfl) (by kernel_rfl) (fun _ _ _ h => h) (Or.inr ⟨by rfl, rfl⟩) (by assumption) ?_
        (try simp only [Act.put, List.setIfInBounds_toArray, List.set_cons_zero, List.set_cons_succ])
        refine wpAnyH_take (i := 16) (oi := ({ dst := some 91, op := Go.Op.binOp Go.BinOp.eql 3 (Go.Operand.tmp 87) (Go.Operand.tmp 90) 3, type := 4, pos := _, after := #[{ on := 12, ground := Go.Ground.data }, { on := 15, ground := Go.Ground.data }, { on := 9, ground := Go.Ground.guard }], guard := some (9, false) } : Oper)) (v := undef) rfl (by kernel_rfl) (by kernel_rfl) (by kernel_rfl) (fun _ _ _ h => h) (Or.inr ⟨by rfl, rfl⟩) (by assumption) ?_
        (try simp only [Act.put, List.setIfInBounds_toArray, List.set_cons_zero, List.set_cons_succ])
        refine wpAnyH_take (i := 17) (oi := ({ dst := some 92, op := Go.Op.pick (Go.Operand.tmp 84) (Go.Operand.const (Go.Value.bool true)) (Go.Operand.tmp 91), type := 4, pos := _, after := #[{ on := 9, ground := Go.Ground.data }, { on := 16, ground := Go.Ground.data }, { on := 4, ground := Go.Ground.guard }], guard := some (4, true) } : Oper)) (v := ?v1017) rfl (by kernel_rfl) (by kernel_rfl) (by kernel_rfl) (fun _ _ _ h => h) (Or.inl ⟨by rfl, ?hy1017⟩) (by assumption) ?_
        case hy1017 => (intro w hSw; (try dsimp only at hSw); go_simp; (try with_reducible rfl))
        (try simp only [Act.put, List.setIfInBounds_toArray, List.set_cons_zero, List.set_cons_succ])
        refine wpAnyH_take (i := 18) (oi := ({ dst := some 93, op := Go.Op.pick (Go.Operand.tmp 79) (Go.Operand.tmp 92) (Go.Operand.const (Go.Value.bool false)), type := 4, pos := _, after := #[{ on := 4, ground := Go.Ground.data }, { on := 17, ground := Go.Ground.data }], guard := none } : Oper)) (v := ?v1018) rfl (by kernel_rfl) (by kernel_rfl) (by kernel_rfl) (fun _ _ _ h => h) (Or.inl ⟨by rfl, ?hy1018⟩) (by assumption) ?_
        case hy1018 => (intro w hSw; (try dsimp only at hSw); go_simp; (try with_reducible rfl))
        (try simp only [Act.put, List.setIfInBounds_toArray, List.set_cons_zero, List.set_cons_succ])
        refine wpAnyH_take (i := 19) (oi := ({ dst := some 94, op := Go.Op.move (Go.Operand.tmp 93), type := 4, pos := _, after := #[{ on := 18, ground := Go.Ground.data }, { on := 15, ground := Go.Ground.chain }], guard := none } : Oper)) (v := ?v1019) rfl (by kernel_rfl) (by kernel_rfl) (by kernel_rfl) (fun _ _ _ h => h) (Or.inl ⟨by rfl, ?hy1019⟩) (by assumption) ?_
        case hy1019 => (intro w hSw; (try dsimp only at hSw); go_simp; (try with_reducible rfl))
        (try simp only [Act.put, List.setIfInBounds_toArray, List.set_cons_zero, List.set_cons_succ])
        refine wpAnyH_ready (rs := [20]) (by kernel_rfl) (by simp) ?_
        refine AllReadyH.cons (o := ({ dst := some 95, op := Go.Op.call { callee := Go.Callee.value (Go.Operand.func 18), args := #[], argTypes := #[] }, type := 4, pos := _, after := #[{ on := 19, ground := Go.Ground.chain }, { on := 19, ground := Go.Ground.guard }], guard := some (19, true) } : Oper)) rfl (fun K0 hK => ?_) AllReadyH.nil
        go_simp
        (with_reducible refine (wlives_any).mono ?_); rintro e wn ⟨rfl, hb⟩; replace K := below_trans K hb; clear hb
        (try go_wp2_with fail)
        refine hK.out _ _ ⟨(HC_s.out.below K).c0, (HC_s.out.below K).c1, (HC_l.out.below K).c0, (HC_l.out.below K).c1, (HC_r.out.below K).c0, (HC_r.out.below K).c1, (HC_o.out.below K).c0, (HC_o.out.below K).c1, (HC_x.out.below K).c0, (HC_x.out.below K).c1⟩ (fun hHeld => ?_)
        clear hK K0
        (try simp only [Act.put, List.setIfInBounds_toArray, List.set_cons_zero, List.set_cons_succ])
        refine wpAnyH_take (i := 21) (oi := ({ dst := some 96, op := Go.Op.pick (Go.Operand.tmp 94) (Go.Operand.tmp 95) (Go.Operand.const (Go.Value.bool false)), type := 4, pos := _, after := #[{ on := 19, ground := Go.Ground.data }, { on := 20, ground := Go.Ground.data }], guard := none } : Oper)) (v := ?v1021) rfl (by kernel_rfl) (by kernel_rfl) (by kernel_rfl) (fun _ _ _ h => h) (Or.inl ⟨by rfl, ?hy1021⟩) (by assumption) ?_
        case hy1021 => (intro w hSw; (try dsimp only at hSw); go_simp; (try with_reducible rfl))
        (try simp only [Act.put, List.setIfInBounds_toArray, List.set_cons_zero, List.set_cons_succ])
        refine wpAnyH_take (i := 22) (oi := ({ dst := some 4, op := Go.Op.assign (Go.Operand.tmp 96), type := 4, pos := _, after := #[{ on := 21, ground := Go.Ground.data }, { on := 20, ground := Go.Ground.chain }, { on := 0, ground := Go.Ground.phase }, { on := 1, ground := Go.Ground.phase }, { on := 2, ground := Go.Ground.phase }, { on := 3, ground := Go.Ground.phase }, { on := 4, ground := Go.Ground.phase }, { on := 5, ground := Go.Ground.phase }, { on := 6, ground := Go.Ground.phase }, { on := 7, ground := Go.Ground.phase }, { on := 8, ground := Go.Ground.phase }, { on := 9, ground := Go.Ground.phase }, { on := 10, ground := Go.Ground.phase }, { on := 11, ground := Go.Ground.phase }, { on := 12, ground := Go.Ground.phase }, { on := 13, ground := Go.Ground.phase }, { on := 14, ground := Go.Ground.phase }, { on := 15, ground := Go.Ground.phase }, { on := 16, ground := Go.Ground.phase }, { on := 17, ground := Go.Ground.phase }, { on := 18, ground := Go.Ground.phase }, { on := 19, ground := Go.Ground.phase }, { on := 20, ground := Go.Ground.phase }, { on := 21, ground := Go.Ground.phase }], guard := none } : Oper)) (v := ?v1022) rfl (by kernel_rfl) (by kernel_rfl) (by kernel_rfl) (fun _ _ _ h => h) (Or.inl ⟨by rfl, ?hy1022⟩) (by assumption) ?_
        case hy1022 => (intro w hSw; (try dsimp only at hSw); go_simp; (try with_reducible rfl))
        (try simp only [Act.put, List.setIfInBounds_toArray, List.set_cons_zero, List.set_cons_succ])
        refine wpAnyH_done (by kernel_rfl) ?_ _
        refine NoPanic.normal ?_
        all_goals go_wp2
        all_goals go_ret
        all_goals exact ⟨rfl, below_trans KB K⟩
      ·
        have cAB : sgn (R) (-N_y) = -1 := sgn_lt (by omega)
        have cR : sgn R 0 = 1 := sgn_gt hR
        have cX : sgn N_x 0 = 1 := by rw [← hsg.resolve_left (by omega)]; exact cR
        have HcA := hide cAB
        have HcR := hide cR
        have HcX := hide cX
        clear cAB cR cX
        go_upto_region 14 with fail
        have K : Below w10.heap.size w10 w10.drew := (Below.refl _ _).drew
        have p_s := HC_s.out.c0
        have q_s := HC_s.out.c1
        have p_l := HC_l.out.c0
        have q_l := HC_l.out.c1
        have p_r := HC_r.out.c0
        have q_r := HC_r.out.c1
        have p_o := HC_o.out.c0
        have q_o := HC_o.out.c1
        have p_x := HC_x.out.c0
        have q_x := HC_x.out.c1
        go_region_held3 (fun w' => w'.cell? ⟨b_s, 0, none⟩ = some (.bool false) ∧ w'.cell? ⟨b_s, 1, none⟩ = some (.slice ro_r rl_r rl_r) ∧ w'.cell? ⟨b_l, 0, none⟩ = some (.bool ng_l') ∧ w'.cell? ⟨b_l, 1, none⟩ = some (.slice ro_l' rl_l' rl_l') ∧ w'.cell? ⟨b_q + 1, 0, none⟩ = some (.bool false) ∧ w'.cell? ⟨b_q + 1, 1, none⟩ = some (.slice ro_r rl_r rl_r) ∧ w'.cell? ⟨b_o, 0, none⟩ = some (.bool ng_o) ∧ w'.cell? ⟨b_o, 1, none⟩ = some (.slice ro_o rl_o rl_o) ∧ w'.cell? ⟨w.heap.size, 0, none⟩ = some (.bool ng_x) ∧ w'.cell? ⟨w.heap.size, 1, none⟩ = some (.slice ao_x zs_x.length c_x))
          (first
            | with_reducible exact ⟨(HC_s.out.below K).c0, (HC_s.out.below K).c1, (HC_l.out.below K).c0, (HC_l.out.below K).c1, (HC_r.out.below K).c0, (HC_r.out.below K).c1, (HC_o.out.below K).c0, (HC_o.out.below K).c1, (HC_x.out.below K).c0, (HC_x.out.below K).c1⟩
            | exact ⟨(HC_s.out.below (by have ks := K.size; go_grown)).c0, (HC_s.out.below (by have ks := K.size; go_grown)).c1, (HC_l.out.below (by have ks := K.size; go_grown)).c0, (HC_l.out.below (by have ks := K.size; go_grown)).c1, (HC_r.out.below (by have ks := K.size; go_grown)).c0, (HC_r.out.below (by have ks := K.size; go_grown)).c1, (HC_o.out.below (by have ks := K.size; go_grown)).c0, (HC_o.out.below (by have ks := K.size; go_grown)).c1, (HC_x.out.below (by have ks := K.size; go_grown)).c0, (HC_x.out.below (by have ks := K.size; go_grown)).c1⟩
            | go_keep)
          (first
            | (go_at_call 19; first | ((with_reducible refine (wcmp_told HcA.out (h_s.arg.below K) (h_l.arg.below K) (by omega) (by omega)).mono ?_); rintro e wn ⟨rfl, hb⟩; replace K := below_trans K hb; clear hb) | ((with_reducible refine (wcmp_told HcR.out (h_r.arg.below K) (h_o.arg.below K) (by omega) (by omega)).mono ?_); rintro e wn ⟨rfl, hb⟩; replace K := below_trans K hb; clear hb) | ((with_reducible refine (wcmp_told HcX.out (h_x.arg.below K) (h_o.arg.below K) (by omega) (by omega)).mono ?_); rintro e wn ⟨rfl, hb⟩; replace K := below_trans K hb; clear hb))
            | (go_at_call 18; first | ((with_reducible refine (wlives_any).mono ?_); rintro e wn ⟨rfl, hb⟩; replace K := below_trans K hb; clear hb)))
        clear p_s q_s p_l q_l p_r q_r p_o q_o p_x q_x
        all_goals go_wp2
        all_goals go_ret
        all_goals exact ⟨rfl, below_trans KB K⟩
    ·
      have vr := sr.2 er
      have vl := sl.2 el
      subst er
      subst el
      rw [if_neg (by omega), if_neg (by omega)] at hlt
      clear p_s q_s p_l q_l
      rcases Int.lt_trichotomy R 0 with hR | hR | hR
      · omega
      ·
        have cAB : sgn (R) (N_y) = -1 := sgn_lt (by omega)
        have cR : sgn R 0 = 0 := sgn_eq hR
        have HcA := hide cAB
        have HcR := hide cR
        clear cAB cR
        have p_s := HC_s.out.c0
        have q_s := HC_s.out.c1
        have p_l := HC_l.out.c0
        have q_l := HC_l.out.c1
        go_upto_region 14 with fail
        clear p_s q_s p_l q_l
        have K : Below w8.heap.size w8 w8.drew := (Below.refl _ _).drew
        refine wp_region_noPanic ?_
        refine wp_region_held_drew (S := fun w' => w'.cell? ⟨b_s, 0, none⟩ = some (.bool false) ∧ w'.cell? ⟨b_s, 1, none⟩ = some (.slice ro_r rl_r rl_r) ∧ w'.cell? ⟨b_l, 0, none⟩ = some (.bool false) ∧ w'.cell? ⟨b_l, 1, none⟩ = some (.slice ro_l rl_l rl_l) ∧ w'.cell? ⟨b_q + 1, 0, none⟩ = some (.bool false) ∧ w'.cell? ⟨b_q + 1, 1, none⟩ = some (.slice ro_r rl_r rl_r) ∧ w'.cell? ⟨b_o, 0, none⟩ = some (.bool ng_o) ∧ w'.cell? ⟨b_o, 1, none⟩ = some (.slice ro_o rl_o rl_o) ∧ w'.cell? ⟨w.heap.size, 0, none⟩ = some (.bool ng_x) ∧ w'.cell? ⟨w.heap.size, 1, none⟩ = some (.slice ao_x zs_x.length c_x)) (by kernel_rfl) ⟨(HC_s.out.below K).c0, (HC_s.out.below K).c1, (HC_l.out.below K).c0, (HC_l.out.below K).c1, (HC_r.out.below K).c0, (HC_r.out.below K).c1, (HC_o.out.below K).c0, (HC_o.out.below K).c1, (HC_x.out.below K).c0, (HC_x.out.below K).c1⟩ (fun hHeld => ?_)
        refine wpAnyH_take (i := 0) (oi := ({ dst := some 75, op := Go.Op.load 25 (Go.Operand.tmp 9), type := 25, pos := _, after := #[], guard := none } : Oper)) (v := ?v2000) rfl (by kernel_rfl) (by kernel_rfl) (by kernel_rfl) (fun _ _ _ h => h) (Or.inl ⟨by rfl, ?hy2000⟩) (by assumption) ?_
        case hy2000 => (intro w hSw; (try dsimp only at hSw); go_simp; (try with_reducible rfl))
        (try simp only [Act.put, List.setIfInBounds_toArray, List.set_cons_zero, List.set_cons_succ])
        refine wpAnyH_take (i := 1) (oi := ({ dst := some 76, op := Go.Op.load 25 (Go.Operand.tmp 10), type := 25, pos := _, after := #[], guard := none } : Oper)) (v := ?v2001) rfl (by kernel_rfl) (by kernel_rfl) (by kernel_rfl) (fun _ _ _ h => h) (Or.inl ⟨by rfl, ?hy2001⟩) (by assumption) ?_
        case hy2001 => (intro w hSw; (try dsimp only at hSw); go_simp; (try with_reducible rfl))
        (try simp only [Act.put, List.setIfInBounds_toArray, List.set_cons_zero, List.set_cons_succ])
        refine wpAnyH_ready (rs := [2]) (by kernel_rfl) (by simp) ?_
        refine AllReadyH.cons (o := ({ dst := some 77, op := Go.Op.call { callee := Go.Callee.value (Go.Operand.func 19), args := #[Go.Operand.tmp 75, Go.Operand.tmp 76], argTypes := #[25, 25] }, type := 3, pos := _, after := #[{ on := 0, ground := Go.Ground.data }, { on := 1, ground := Go.Ground.data }], guard := none } : Oper)) rfl (fun K0 hK => ?_) AllReadyH.nil
        go_simp
        (with_reducible refine (wcmp_told HcA.out (h_s.arg.below K) (h_l.arg.below K) (by omega) (by omega)).mono ?_); rintro e wn ⟨rfl, hb⟩; replace K := below_trans K hb; clear hb
        (try go_wp2_with fail)
        refine hK.out _ _ ⟨(HC_s.out.below K).c0, (HC_s.out.below K).c1, (HC_l.out.below K).c0, (HC_l.out.below K).c1, (HC_r.out.below K).c0, (HC_r.out.below K).c1, (HC_o.out.below K).c0, (HC_o.out.below K).c1, (HC_x.out.below K).c0, (HC_x.out.below K).c1⟩ (fun hHeld => ?_)
        clear hK K0
        (try simp only [Act.put, List.setIfInBounds_toArray, List.set_cons_zero, List.set_cons_succ])
        refine wpAnyH_take (i := 3) (oi := ({ dst := some 78, op := Go.Op.binOp Go.BinOp.lss 3 (Go.Operand.tmp 77) (Go.Operand.const (Go.Value.int Go.IntKind.i64 0)) 3, type := 4, pos := _, after := #[{ on := 2, ground := Go.Ground.data }], guard := none } : Oper)) (v := ?v2003) rfl (by kernel_rfl) (by kernel_rfl) (by kernel_rfl) (fun _ _ _ h => h) (Or.inl ⟨by rfl, ?hy2003⟩) (by assumption) ?_
        case hy2003 => (intro w hSw; (try dsimp only at hSw); go_simp; (try with_reducible rfl))
        (try simp only [Act.put, List.setIfInBounds_toArray, List.set_cons_zero, List.set_cons_succ])
        refine wpAnyH_take (i := 4) (oi := ({ dst := some 79, op := Go.Op.move (Go.Operand.tmp 78), type := 4, pos := _, after := #[{ on := 3, ground := Go.Ground.data }, { on := 2, ground := Go.Ground.chain }], guard := none } : Oper)) (v := ?v2004) rfl (by kernel_rfl) (by kernel_rfl) (by kernel_rfl) (fun _ _ _ h => h) (Or.inl ⟨by rfl, ?hy2004⟩) (by assumption) ?_
        case hy2004 => (intro w hSw; (try dsimp only at hSw); go_simp; (try with_reducible rfl))
        (try simp only [Act.put, List.setIfInBounds_toArray, List.set_cons_zero, List.set_cons_succ])
        refine wpAnyH_take (i := 5) (oi := ({ dst := some 80, op := Go.Op.load 25 (Go.Operand.tmp 7), type := 25, pos := _, after := #[{ on := 4, ground := Go.Ground.guard }], guard := some (4, true) } : Oper)) (v := ?v2005) rfl (by kernel_rfl) (by kernel_rfl) (by kernel_rfl) (fun _ _ _ h => h) (Or.inl ⟨by rfl, ?hy2005⟩) (by assumption) ?_
        case hy2005 => (intro w hSw; (try dsimp only at hSw); go_simp; (try with_reducible rfl))
        (try simp only [Act.put, List.setIfInBounds_toArray, List.set_cons_zero, List.set_cons_succ])
        refine wpAnyH_take (i := 6) (oi := ({ dst := some 81, op := Go.Op.load 25 (Go.Operand.tmp 5), type := 25, pos := _, after := #[{ on := 4, ground := Go.Ground.guard }], guard := some (4, true) } : Oper)) (v := ?v2006) rfl (by kernel_rfl) (by kernel_rfl) (by kernel_rfl) (fun _ _ _ h => h) (Or.inl ⟨by rfl, ?hy2006⟩) (by assumption) ?_
        case hy2006 => (intro w hSw; (try dsimp only at hSw); go_simp; (try with_reducible rfl))
        (try simp only [Act.put, List.setIfInBounds_toArray, List.set_cons_zero, List.set_cons_succ])
        refine wpAnyH_ready (rs := [7]) (by kernel_rfl) (by simp) ?_
        refine AllReadyH.cons (o := ({ dst := some 82, op := Go.Op.call { callee := Go.Callee.value (Go.Operand.func 19), args := #[Go.Operand.tmp 80, Go.Operand.tmp 81], argTypes := #[25, 25] }, type := 3, pos := _, after := #[{ on := 5, ground := Go.Ground.data }, { on := 6, ground := Go.Ground.data }, { on := 4, ground := Go.Ground.chain }, { on := 4, ground := Go.Ground.guard }], guard := some (4, true) } : Oper)) rfl (fun K0 hK => ?_) AllReadyH.nil
        go_simp
        (with_reducible refine (wcmp_told HcR.out (h_r.arg.below K) (h_o.arg.below K) (by omega) (by omega)).mono ?_); rintro e wn ⟨rfl, hb⟩; replace K := below_trans K hb; clear hb
        (try go_wp2_with fail)
        refine hK.out _ _ ⟨(HC_s.out.below K).c0, (HC_s.out.below K).c1, (HC_l.out.below K).c0, (HC_l.out.below K).c1, (HC_r.out.below K).c0, (HC_r.out.below K).c1, (HC_o.out.below K).c0, (HC_o.out.below K).c1, (HC_x.out.below K).c0, (HC_x.out.below K).c1⟩ (fun hHeld => ?_)
        clear hK K0
        (try simp only [Act.put, List.setIfInBounds_toArray, List.set_cons_zero, List.set_cons_succ])
        refine wpAnyH_take (i := 8) (oi := ({ dst := some 83, op := Go.Op.binOp Go.BinOp.eql 3 (Go.Operand.tmp 82) (Go.Operand.const (Go.Value.int Go.IntKind.i64 0)) 3, type := 4, pos := _, after := #[{ on := 7, ground := Go.Ground.data }, { on := 4, ground := Go.Ground.guard }], guard := some (4, true) } : Oper)) (v := ?v2008) rfl (by kernel_rfl) (by kernel_rfl) (by kernel_rfl) (fun _ _ _ h => h) (Or.inl ⟨by rfl, ?hy2008⟩) (by assumption) ?_
        case hy2008 => (intro w hSw; (try dsimp only at hSw); go_simp; (try with_reducible rfl))
        (try simp only [Act.put, List.setIfInBounds_toArray, List.set_cons_zero, List.set_cons_succ])
        refine wpAnyH_take (i := 9) (oi := ({ dst := some 84, op := Go.Op.move (Go.Operand.tmp 83), type := 4, pos := _, after := #[{ on := 8, ground := Go.Ground.data }, { on := 7, ground := Go.Ground.chain }, { on := 4, ground := Go.Ground.guard }], guard := some (4, true) } : Oper)) (v := ?v2009) rfl (by kernel_rfl) (by kernel_rfl) (by kernel_rfl) (fun _ _ _ h => h) (Or.inl ⟨by rfl, ?hy2009⟩) (by assumption) ?_
        case hy2009 => (intro w hSw; (try dsimp only at hSw); go_simp; (try with_reducible rfl))
        (try simp only [Act.put, List.setIfInBounds_toArray, List.set_cons_zero, List.set_cons_succ])
        refine wpAnyH_take (i := 10) (oi := ({ dst := some 85, op := Go.Op.load 25 (Go.Operand.tmp 7), type := 25, pos := _, after := #[{ on := 9, ground := Go.Ground.guard }], guard := some (9, false) } : Oper)) (v := undef) rfl (by kernel_rfl) (by kernel_rfl) (by kernel_rfl) (fun _ _ _ h => h) (Or.inr ⟨by rfl, rfl⟩) (by assumption) ?_
        (try simp only [Act.put, List.setIfInBounds_toArray, List.set_cons_zero, List.set_cons_succ])
        refine wpAnyH_take (i := 11) (oi := ({ dst := some 86, op := Go.Op.load 25 (Go.Operand.tmp 5), type := 25, pos := _, after := #[{ on := 9, ground := Go.Ground.guard }], guard := some (9, false) } : Oper)) (v := undef) rfl (by kernel_rfl) (by kernel_rfl) (by kernel_rfl) (fun _ _ _ h => h) (Or.inr ⟨by rfl, rfl⟩) (by assumption) ?_
        (try simp only [Act.put, List.setIfInBounds_toArray, List.set_cons_zero, List.set_cons_succ])
        refine wpAnyH_take (i := 12) (oi := ({ dst := some 87, op := Go.Op.call { callee := Go.Callee.value (Go.Operand.func 19), args := #[Go.Operand.tmp 85, Go.Operand.tmp 86], argTypes := #[25, 25] }, type := 3, pos := _, after := #[{ on := 10, ground := Go.Ground.data }, { on := 11, ground := Go.Ground.data }, { on := 9, ground := Go.Ground.chain }, { on := 9, ground := Go.Ground.guard }], guard := some (9, false) } : Oper)) (v := undef) rfl (by kernel_rfl) (by kernel_rfl) (by kernel_rfl) (fun _ _ _ h => h) (Or.inr ⟨by rfl, rfl⟩) (by assumption) ?_
        (try simp only [Act.put, List.setIfInBounds_toArray, List.set_cons_zero, List.set_cons_succ])
        refine wpAnyH_take (i := 13) (oi := ({ dst := some 88, op := Go.Op.load 25 (Go.Operand.tmp 2), type := 25, pos := _, after := #[{ on := 9, ground := Go.Ground.guard }], guard := some (9, false) } : Oper)) (v := undef) rfl (by kernel_rfl) (by kernel_rfl) (by kernel_rfl) (fun _ _ _ h => h) (Or.inr ⟨by rfl, rfl⟩) (by assumption) ?_
        (try simp only [Act.put, List.setIfInBounds_toArray, List.set_cons_zero, List.set_cons_succ])
        refine wpAnyH_take (i := 14) (oi := ({ dst := some 89, op := Go.Op.load 25 (Go.Operand.tmp 5), type := 25, pos := _, after := #[{ on := 9, ground := Go.Ground.guard }], guard := some (9, false) } : Oper)) (v := undef) rfl (by kernel_rfl) (by kernel_rfl) (by kernel_rfl) (fun _ _ _ h => h) (Or.inr ⟨by rfl, rfl⟩) (by assumption) ?_
        (try simp only [Act.put, List.setIfInBounds_toArray, List.set_cons_zero, List.set_cons_succ])
        refine wpAnyH_take (i := 15) (oi := ({ dst := some 90, op := Go.Op.call { callee := Go.Callee.value (Go.Operand.func 19), args := #[Go.Operand.tmp 88, Go.Operand.tmp 89], argTypes := #[25, 25] }, type := 3, pos := _, after := #[{ on := 13, ground := Go.Ground.data }, { on := 14, ground := Go.Ground.data }, { on := 12, ground := Go.Ground.chain }, { on := 9, ground := Go.Ground.guard }], guard := some (9, false) } : Oper)) (v := undef) rfl (by kernel_rfl) (by kernel_rfl) (by kernel_rfl) (fun _ _ _ h => h) (Or.inr ⟨by rfl, rfl⟩) (by assumption) ?_
        (try simp only [Act.put, List.setIfInBounds_toArray, List.set_cons_zero, List.set_cons_succ])
        refine wpAnyH_take (i := 16) (oi := ({ dst := some 91, op := Go.Op.binOp Go.BinOp.eql 3 (Go.Operand.tmp 87) (Go.Operand.tmp 90) 3, type := 4, pos := _, after := #[{ on := 12, ground := Go.Ground.data }, { on := 15, ground := Go.Ground.data }, { on := 9, ground := Go.Ground.guard }], guard := some (9, false) } : Oper)) (v := undef) rfl (by kernel_rfl) (by kernel_rfl) (by kernel_rfl) (fun _ _ _ h => h) (Or.inr ⟨by rfl, rfl⟩) (by assumption) ?_
        (try simp only [Act.put, List.setIfInBounds_toArray, List.set_cons_zero, List.set_cons_succ])
        refine wpAnyH_take (i := 17) (oi := ({ dst := some 92, op := Go.Op.pick (Go.Operand.tmp 84) (Go.Operand.const (Go.Value.bool true)) (Go.Operand.tmp 91), type := 4, pos := _, after := #[{ on := 9, ground := Go.Ground.data }, { on := 16, ground := Go.Ground.data }, { on := 4, ground := Go.Ground.guard }], guard := some (4, true) } : Oper)) (v := ?v2017) rfl (by kernel_rfl) (by kernel_rfl) (by kernel_rfl) (fun _ _ _ h => h) (Or.inl ⟨by rfl, ?hy2017⟩) (by assumption) ?_
        case hy2017 => (intro w hSw; (try dsimp only at hSw); go_simp; (try with_reducible rfl))
        (try simp only [Act.put, List.setIfInBounds_toArray, List.set_cons_zero, List.set_cons_succ])
        refine wpAnyH_take (i := 18) (oi := ({ dst := some 93, op := Go.Op.pick (Go.Operand.tmp 79) (Go.Operand.tmp 92) (Go.Operand.const (Go.Value.bool false)), type := 4, pos := _, after := #[{ on := 4, ground := Go.Ground.data }, { on := 17, ground := Go.Ground.data }], guard := none } : Oper)) (v := ?v2018) rfl (by kernel_rfl) (by kernel_rfl) (by kernel_rfl) (fun _ _ _ h => h) (Or.inl ⟨by rfl, ?hy2018⟩) (by assumption) ?_
        case hy2018 => (intro w hSw; (try dsimp only at hSw); go_simp; (try with_reducible rfl))
        (try simp only [Act.put, List.setIfInBounds_toArray, List.set_cons_zero, List.set_cons_succ])
        refine wpAnyH_take (i := 19) (oi := ({ dst := some 94, op := Go.Op.move (Go.Operand.tmp 93), type := 4, pos := _, after := #[{ on := 18, ground := Go.Ground.data }, { on := 15, ground := Go.Ground.chain }], guard := none } : Oper)) (v := ?v2019) rfl (by kernel_rfl) (by kernel_rfl) (by kernel_rfl) (fun _ _ _ h => h) (Or.inl ⟨by rfl, ?hy2019⟩) (by assumption) ?_
        case hy2019 => (intro w hSw; (try dsimp only at hSw); go_simp; (try with_reducible rfl))
        (try simp only [Act.put, List.setIfInBounds_toArray, List.set_cons_zero, List.set_cons_succ])
        refine wpAnyH_ready (rs := [20]) (by kernel_rfl) (by simp) ?_
        refine AllReadyH.cons (o := ({ dst := some 95, op := Go.Op.call { callee := Go.Callee.value (Go.Operand.func 18), args := #[], argTypes := #[] }, type := 4, pos := _, after := #[{ on := 19, ground := Go.Ground.chain }, { on := 19, ground := Go.Ground.guard }], guard := some (19, true) } : Oper)) rfl (fun K0 hK => ?_) AllReadyH.nil
        go_simp
        (with_reducible refine (wlives_any).mono ?_); rintro e wn ⟨rfl, hb⟩; replace K := below_trans K hb; clear hb
        (try go_wp2_with fail)
        refine hK.out _ _ ⟨(HC_s.out.below K).c0, (HC_s.out.below K).c1, (HC_l.out.below K).c0, (HC_l.out.below K).c1, (HC_r.out.below K).c0, (HC_r.out.below K).c1, (HC_o.out.below K).c0, (HC_o.out.below K).c1, (HC_x.out.below K).c0, (HC_x.out.below K).c1⟩ (fun hHeld => ?_)
        clear hK K0
        (try simp only [Act.put, List.setIfInBounds_toArray, List.set_cons_zero, List.set_cons_succ])
        refine wpAnyH_take (i := 21) (oi := ({ dst := some 96, op := Go.Op.pick (Go.Operand.tmp 94) (Go.Operand.tmp 95) (Go.Operand.const (Go.Value.bool false)), type := 4, pos := _, after := #[{ on := 19, ground := Go.Ground.data }, { on := 20, ground := Go.Ground.data }], guard := none } : Oper)) (v := ?v2021) rfl (by kernel_rfl) (by kernel_rfl) (by kernel_rfl) (fun _ _ _ h => h) (Or.inl ⟨by rfl, ?hy2021⟩) (by assumption) ?_
        case hy2021 => (intro w hSw; (try dsimp only at hSw); go_simp; (try with_reducible rfl))
        (try simp only [Act.put, List.setIfInBounds_toArray, List.set_cons_zero, List.set_cons_succ])
        refine wpAnyH_take (i := 22) (oi := ({ dst := some 4, op := Go.Op.assign (Go.Operand.tmp 96), type := 4, pos := _, after := #[{ on := 21, ground := Go.Ground.data }, { on := 20, ground := Go.Ground.chain }, { on := 0, ground := Go.Ground.phase }, { on := 1, ground := Go.Ground.phase }, { on := 2, ground := Go.Ground.phase }, { on := 3, ground := Go.Ground.phase }, { on := 4, ground := Go.Ground.phase }, { on := 5, ground := Go.Ground.phase }, { on := 6, ground := Go.Ground.phase }, { on := 7, ground := Go.Ground.phase }, { on := 8, ground := Go.Ground.phase }, { on := 9, ground := Go.Ground.phase }, { on := 10, ground := Go.Ground.phase }, { on := 11, ground := Go.Ground.phase }, { on := 12, ground := Go.Ground.phase }, { on := 13, ground := Go.Ground.phase }, { on := 14, ground := Go.Ground.phase }, { on := 15, ground := Go.Ground.phase }, { on := 16, ground := Go.Ground.phase }, { on := 17, ground := Go.Ground.phase }, { on := 18, ground := Go.Ground.phase }, { on := 19, ground := Go.Ground.phase }, { on := 20, ground := Go.Ground.phase }, { on := 21, ground := Go.Ground.phase }], guard := none } : Oper)) (v := ?v2022) rfl (by kernel_rfl) (by kernel_rfl) (by kernel_rfl) (fun _ _ _ h => h) (Or.inl ⟨by rfl, ?hy2022⟩) (by assumption) ?_
        case hy2022 => (intro w hSw; (try dsimp only at hSw); go_simp; (try with_reducible rfl))
        (try simp only [Act.put, List.setIfInBounds_toArray, List.set_cons_zero, List.set_cons_succ])
        refine wpAnyH_done (by kernel_rfl) ?_ _
        refine NoPanic.normal ?_
        all_goals go_wp2
        all_goals go_ret
        all_goals exact ⟨rfl, below_trans KB K⟩
      ·
        have cAB : sgn (R) (N_y) = -1 := sgn_lt (by omega)
        have cR : sgn R 0 = 1 := sgn_gt hR
        have cX : sgn N_x 0 = 1 := by rw [← hsg.resolve_left (by omega)]; exact cR
        have HcA := hide cAB
        have HcR := hide cR
        have HcX := hide cX
        clear cAB cR cX
        have p_s := HC_s.out.c0
        have q_s := HC_s.out.c1
        have p_l := HC_l.out.c0
        have q_l := HC_l.out.c1
        go_upto_region 14 with fail
        clear p_s q_s p_l q_l
        have K : Below w8.heap.size w8 w8.drew := (Below.refl _ _).drew
        have p_s := HC_s.out.c0
        have q_s := HC_s.out.c1
        have p_l := HC_l.out.c0
        have q_l := HC_l.out.c1
        have p_r := HC_r.out.c0
        have q_r := HC_r.out.c1
        have p_o := HC_o.out.c0
        have q_o := HC_o.out.c1
        have p_x := HC_x.out.c0
        have q_x := HC_x.out.c1
        go_region_held3 (fun w' => w'.cell? ⟨b_s, 0, none⟩ = some (.bool false) ∧ w'.cell? ⟨b_s, 1, none⟩ = some (.slice ro_r rl_r rl_r) ∧ w'.cell? ⟨b_l, 0, none⟩ = some (.bool false) ∧ w'.cell? ⟨b_l, 1, none⟩ = some (.slice ro_l rl_l rl_l) ∧ w'.cell? ⟨b_q + 1, 0, none⟩ = some (.bool false) ∧ w'.cell? ⟨b_q + 1, 1, none⟩ = some (.slice ro_r rl_r rl_r) ∧ w'.cell? ⟨b_o, 0, none⟩ = some (.bool ng_o) ∧ w'.cell? ⟨b_o, 1, none⟩ = some (.slice ro_o rl_o rl_o) ∧ w'.cell? ⟨w.heap.size, 0, none⟩ = some (.bool ng_x) ∧ w'.cell? ⟨w.heap.size, 1, none⟩ = some (.slice ao_x zs_x.length c_x))
          (first
            | with_reducible exact ⟨(HC_s.out.below K).c0, (HC_s.out.below K).c1, (HC_l.out.below K).c0, (HC_l.out.below K).c1, (HC_r.out.below K).c0, (HC_r.out.below K).c1, (HC_o.out.below K).c0, (HC_o.out.below K).c1, (HC_x.out.below K).c0, (HC_x.out.below K).c1⟩
            | exact ⟨(HC_s.out.below (by have ks := K.size; go_grown)).c0, (HC_s.out.below (by have ks := K.size; go_grown)).c1, (HC_l.out.below (by have ks := K.size; go_grown)).c0, (HC_l.out.below (by have ks := K.size; go_grown)).c1, (HC_r.out.below (by have ks := K.size; go_grown)).c0, (HC_r.out.below (by have ks := K.size; go_grown)).c1, (HC_o.out.below (by have ks := K.size; go_grown)).c0, (HC_o.out.below (by have ks := K.size; go_grown)).c1, (HC_x.out.below (by have ks := K.size; go_grown)).c0, (HC_x.out.below (by have ks := K.size; go_grown)).c1⟩
            | go_keep)
          (first
            | (go_at_call 19; first | ((with_reducible refine (wcmp_told HcA.out (h_s.arg.below K) (h_l.arg.below K) (by omega) (by omega)).mono ?_); rintro e wn ⟨rfl, hb⟩; replace K := below_trans K hb; clear hb) | ((with_reducible refine (wcmp_told HcR.out (h_r.arg.below K) (h_o.arg.below K) (by omega) (by omega)).mono ?_); rintro e wn ⟨rfl, hb⟩; replace K := below_trans K hb; clear hb) | ((with_reducible refine (wcmp_told HcX.out (h_x.arg.below K) (h_o.arg.below K) (by omega) (by omega)).mono ?_); rintro e wn ⟨rfl, hb⟩; replace K := below_trans K hb; clear hb))
            | (go_at_call 18; first | ((with_reducible refine (wlives_any).mono ?_); rintro e wn ⟨rfl, hb⟩; replace K := below_trans K hb; clear hb)))
        clear p_s q_s p_l q_l p_r q_r p_o q_o p_x q_x
        all_goals go_wp2
        all_goals go_ret
        all_goals exact ⟨rfl, below_trans KB K⟩

end Go.Proofs.YtbjohagiiidpjabDoor
