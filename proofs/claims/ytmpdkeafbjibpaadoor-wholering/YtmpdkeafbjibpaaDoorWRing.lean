/- WholeRing: the walk -/
import Derived.Test.YtmpdkeafbjibpaaDoorWLives
import Derived.Test.YtmpdkeafbjibpaaDoorWInw
import Derived.Test.YtmpdkeafbjibpaaDoorWHl
namespace Go.Proofs.YtmpdkeafbjibpaaDoor
open Go.RowKit

theorem beyond_w3 {w : World} {g : Nat} {a0 a1 a2 : Option Addr} {l0 c0 l1 c1 l2 c2 : Nat} (hg : g < w.heap.size) (j0 : l0 ≤ 70368744177664) (j1 : l1 ≤ 70368744177664) (j2 : l2 ≤ 70368744177664) (h0 : w.cell? ⟨g, 1, none⟩ = some (.slice a0 l0 c0)) (h1 : w.cell? ⟨g, 3, none⟩ = some (.slice a1 l1 c1)) (h2 : w.cell? ⟨g, 5, none⟩ = some (.slice a2 l2 c2)) :
    Calls Tryd.prog 6 #[.slice (some ⟨g, 0, none⟩) 3 3] w fun e w' => e = .returned (.bool (decide (1048576 < 1 + l0 ∨ 1048576 < 1 + l1 ∨ 1048576 < 1 + l2))) ∧ Below w.heap.size w w' := by
  refine (wbeyond_any (ls := [l0, l1, l2]) (by simp) (fun i => ?_) hg (fun i hi => ?_)).mono ?_
  · match i with
    | 0 => simpa using j0
    | 1 => simpa using j1
    | 2 => simpa using j2
    | i + 3 => simp
  · match i, hi with
    | 0, _ => exact ⟨_, _, h0⟩
    | 1, _ => exact ⟨_, _, h1⟩
    | 2, _ => exact ⟨_, _, h2⟩
  · rintro e w' ⟨rfl, hb⟩
    refine ⟨?_, hb⟩
    congr 2
    apply decide_eq_decide.2
    constructor
    · rintro ⟨i, hi, h⟩
      match i, hi, h with
      | 0, _, h => exact Or.inl h
      | 1, _, h => exact Or.inr (Or.inl h)
      | 2, _, h => exact Or.inr (Or.inr (h))
    · intro h
      rcases h with h | h | h
      · exact ⟨0, by simp, h⟩
      · exact ⟨1, by simp, h⟩
      · exact ⟨2, by simp, h⟩

set_option maxRecDepth 100000 in
set_option maxHeartbeats 16000000 in
theorem wring_walk {w : World} {ng_x : Bool} {v_x : Value} {zs_x : List Int} {ng_y : Bool} {v_y : Value} {zs_y : List Int} {ng_z : Bool} {v_z : Value} {zs_z : List Int}
    (r_x : Reads .u32 w v_x zs_x) (o_x : Nt.Ok zs_x) (j_x : zs_x.length ≤ 70368744177664) (r_y : Reads .u32 w v_y zs_y) (o_y : Nt.Ok zs_y) (j_y : zs_y.length ≤ 70368744177664) (r_z : Reads .u32 w v_z zs_z) (o_z : Nt.Ok zs_z) (j_z : zs_z.length ≤ 70368744177664) :
    Calls Tryd.prog 3 #[.agg #[.bool ng_x, v_x], .agg #[.bool ng_y, v_y], .agg #[.bool ng_z, v_z]] w fun e w' => e = .returned (.bool true) ∧ Below w.heap.size w w' := by
  obtain ⟨ao_x, c_x, rfl, ha1_x, ha2_x, ha3_x⟩ := r_x
  obtain ⟨ao_y, c_y, rfl, ha1_y, ha2_y, ha3_y⟩ := r_y
  obtain ⟨ao_z, c_z, rfl, ha1_z, ha2_z, ha3_z⟩ := r_z
  have KB : Below w.heap.size w ((((w.alloc (.cells #[.bool ng_x, .slice ao_x zs_x.length c_x] 25)).alloc (.cells #[.bool ng_y, .slice ao_y zs_y.length c_y] 25)).alloc (.cells #[.bool ng_z, .slice ao_z zs_z.length c_z] 25)).alloc (.cells #[.bool ng_x, .slice ao_x zs_x.length c_x, .bool ng_y, .slice ao_y zs_y.length c_y, .bool ng_z, .slice ao_z zs_z.length c_z] 25)) := (below_trans (below_trans (below_trans (bel_alloc _ _) (bel_alloc _ _)) (bel_alloc _ _)) (bel_alloc _ _))
  have z1 : (w.alloc (.cells #[.bool ng_x, .slice ao_x zs_x.length c_x] 25)).heap.size = w.heap.size + 1 := by simp
  have z2 : ((w.alloc (.cells #[.bool ng_x, .slice ao_x zs_x.length c_x] 25)).alloc (.cells #[.bool ng_y, .slice ao_y zs_y.length c_y] 25)).heap.size = w.heap.size + 2 := by simp
  have z3 : (((w.alloc (.cells #[.bool ng_x, .slice ao_x zs_x.length c_x] 25)).alloc (.cells #[.bool ng_y, .slice ao_y zs_y.length c_y] 25)).alloc (.cells #[.bool ng_z, .slice ao_z zs_z.length c_z] 25)).heap.size = w.heap.size + 3 := by simp
  have C_x := (((cell2_new w (.bool ng_x) (.slice ao_x zs_x.length c_x) 25).alloc (.cells #[.bool ng_y, .slice ao_y zs_y.length c_y] 25)).alloc (.cells #[.bool ng_z, .slice ao_z zs_z.length c_z] 25)).alloc (.cells #[.bool ng_x, .slice ao_x zs_x.length c_x, .bool ng_y, .slice ao_y zs_y.length c_y, .bool ng_z, .slice ao_z zs_z.length c_z] 25)
  have C_y := ((cell2_new (w.alloc (.cells #[.bool ng_x, .slice ao_x zs_x.length c_x] 25)) (.bool ng_y) (.slice ao_y zs_y.length c_y) 25).alloc (.cells #[.bool ng_z, .slice ao_z zs_z.length c_z] 25)).alloc (.cells #[.bool ng_x, .slice ao_x zs_x.length c_x, .bool ng_y, .slice ao_y zs_y.length c_y, .bool ng_z, .slice ao_z zs_z.length c_z] 25)
  rw [z1] at C_y
  have C_z := (cell2_new ((w.alloc (.cells #[.bool ng_x, .slice ao_x zs_x.length c_x] 25)).alloc (.cells #[.bool ng_y, .slice ao_y zs_y.length c_y] 25)) (.bool ng_z) (.slice ao_z zs_z.length c_z) 25).alloc (.cells #[.bool ng_x, .slice ao_x zs_x.length c_x, .bool ng_y, .slice ao_y zs_y.length c_y, .bool ng_z, .slice ao_z zs_z.length c_z] 25)
  rw [z2] at C_z
  have f0 : ((((w.alloc (.cells #[.bool ng_x, .slice ao_x zs_x.length c_x] 25)).alloc (.cells #[.bool ng_y, .slice ao_y zs_y.length c_y] 25)).alloc (.cells #[.bool ng_z, .slice ao_z zs_z.length c_z] 25)).alloc (.cells #[.bool ng_x, .slice ao_x zs_x.length c_x, .bool ng_y, .slice ao_y zs_y.length c_y, .bool ng_z, .slice ao_z zs_z.length c_z] 25)).cell? ⟨w.heap.size + 3, 1, none⟩ = some (.slice ao_x zs_x.length c_x) := by rw [World.cell?_alloc_at _ _ _ _ (by rw [z3])]; rfl
  have f1 : ((((w.alloc (.cells #[.bool ng_x, .slice ao_x zs_x.length c_x] 25)).alloc (.cells #[.bool ng_y, .slice ao_y zs_y.length c_y] 25)).alloc (.cells #[.bool ng_z, .slice ao_z zs_z.length c_z] 25)).alloc (.cells #[.bool ng_x, .slice ao_x zs_x.length c_x, .bool ng_y, .slice ao_y zs_y.length c_y, .bool ng_z, .slice ao_z zs_z.length c_z] 25)).cell? ⟨w.heap.size + 3, 3, none⟩ = some (.slice ao_y zs_y.length c_y) := by rw [World.cell?_alloc_at _ _ _ _ (by rw [z3])]; rfl
  have f2 : ((((w.alloc (.cells #[.bool ng_x, .slice ao_x zs_x.length c_x] 25)).alloc (.cells #[.bool ng_y, .slice ao_y zs_y.length c_y] 25)).alloc (.cells #[.bool ng_z, .slice ao_z zs_z.length c_z] 25)).alloc (.cells #[.bool ng_x, .slice ao_x zs_x.length c_x, .bool ng_y, .slice ao_y zs_y.length c_y, .bool ng_z, .slice ao_z zs_z.length c_z] 25)).cell? ⟨w.heap.size + 3, 5, none⟩ = some (.slice ao_z zs_z.length c_z) := by rw [World.cell?_alloc_at _ _ _ _ (by rw [z3])]; rfl
  have fz : w.heap.size + 3 < ((((w.alloc (.cells #[.bool ng_x, .slice ao_x zs_x.length c_x] 25)).alloc (.cells #[.bool ng_y, .slice ao_y zs_y.length c_y] 25)).alloc (.cells #[.bool ng_z, .slice ao_z zs_z.length c_z] 25)).alloc (.cells #[.bool ng_x, .slice ao_x zs_x.length c_x, .bool ng_y, .slice ao_y zs_y.length c_y, .bool ng_z, .slice ao_z zs_z.length c_z] 25)).heap.size := by simp
  have hbey := beyond_w3 fz j_x j_y j_z f0 f1 f2
  clear fz f0 f1 f2 z1 z2 z3
  by_cases hbig : (1048576 < 1 + zs_x.length ∨ 1048576 < 1 + zs_y.length ∨ 1048576 < 1 + zs_z.length)
  · rw [decide_eq_true hbig] at hbey
    have Hbey := hide hbey
    clear hbey hbig
    go_enter Tryd.func3, Tryd.ntmps3
    go_wp2_with fail
    with_reducible refine Hbey.out.mono ?_
    rintro e w1 ⟨rfl, hb⟩
    go_wp2
    go_ret
    exact ⟨rfl, KB.trans (hb.mono KB.size)⟩
  rw [decide_eq_false hbig] at hbey
  have Hbey := hide hbey
  clear hbey
  have hl_x : zs_x.length ≤ 1048576 := by omega
  have h_x : WArg w (.agg #[.bool ng_x, .slice ao_x zs_x.length c_x]) (wn ng_x (Nt.val zs_x)) 1048576 := ⟨_, _, _, rfl, ⟨zs_x, ⟨ao_x, c_x, rfl, ha1_x, ha2_x, ha3_x⟩, o_x, rfl, by omega⟩, rfl⟩
  clear ha1_x ha2_x ha3_x o_x
  generalize wn ng_x (Nt.val zs_x) = N_x at *
  have H0_x := hide h_x
  replace h_x := h_x.below KB
  have HC_x := hide C_x
  clear C_x
  have hl_y : zs_y.length ≤ 1048576 := by omega
  have h_y : WArg w (.agg #[.bool ng_y, .slice ao_y zs_y.length c_y]) (wn ng_y (Nt.val zs_y)) 1048576 := ⟨_, _, _, rfl, ⟨zs_y, ⟨ao_y, c_y, rfl, ha1_y, ha2_y, ha3_y⟩, o_y, rfl, by omega⟩, rfl⟩
  clear ha1_y ha2_y ha3_y o_y
  generalize wn ng_y (Nt.val zs_y) = N_y at *
  have H0_y := hide h_y
  replace h_y := h_y.below KB
  have HC_y := hide C_y
  clear C_y
  have hl_z : zs_z.length ≤ 1048576 := by omega
  have h_z : WArg w (.agg #[.bool ng_z, .slice ao_z zs_z.length c_z]) (wn ng_z (Nt.val zs_z)) 1048576 := ⟨_, _, _, rfl, ⟨zs_z, ⟨ao_z, c_z, rfl, ha1_z, ha2_z, ha3_z⟩, o_z, rfl, by omega⟩, rfl⟩
  clear ha1_z ha2_z ha3_z o_z
  generalize wn ng_z (Nt.val zs_z) = N_z at *
  have H0_z := hide h_z
  replace h_z := h_z.below KB
  have HC_z := hide C_z
  clear C_z
  clear hbig
  go_enter Tryd.func3, Tryd.ntmps3
  go_wp2_with fail
  with_reducible refine Hbey.out.mono ?_
  clear Hbey
  rintro e w1 ⟨rfl, hb⟩
  replace KB := KB.trans (hb.mono KB.size)
  replace h_x := h_x.below hb
  replace HC_x := hide (HC_x.out.below hb)
  replace h_y := h_y.below hb
  replace HC_y := hide (HC_y.out.below hb)
  replace h_z := h_z.below hb
  replace HC_z := hide (HC_z.out.below hb)
  clear hb
  go_upto_region 3 with fail
  go_cut [7, 8, 9] from 21 (fun s7 s8 s9 w' => ∃ b_a ng_a ro_a rl_a b_b ng_b ro_b rl_b b_c ng_c ro_c rl_c, s7 = .pointer (some ⟨b_a, 0, none⟩) ∧ Cell2 w' b_a (.bool ng_a) (.slice ro_a rl_a rl_a) ∧ WNum 0 w' (.agg #[.bool ng_a, .slice ro_a rl_a rl_a]) (N_x) 1048576 ∧ s8 = .pointer (some ⟨b_b, 0, none⟩) ∧ Cell2 w' b_b (.bool ng_b) (.slice ro_b rl_b rl_b) ∧ WNum 0 w' (.agg #[.bool ng_b, .slice ro_b rl_b rl_b]) (N_y) 1048576 ∧ s9 = .pointer (some ⟨b_c, 0, none⟩) ∧ Cell2 w' b_c (.bool ng_c) (.slice ro_c rl_c rl_c) ∧ WNum 0 w' (.agg #[.bool ng_c, .slice ro_c rl_c rl_c]) (N_z) 1048576 ∧ Below w1.heap.size w1 w')
  case first =>
    refine wpInvA (J := fun a0 up a w' => ∃ s21 s22 s23 s24 s25 s26 s7 s8 s9, a = (((((((((a0.put (some 21) s21).put (some 22) s22).put (some 23) s23).put (some 24) s24).put (some 25) s25).put (some 26) s26).put (some 7) s7).put (some 8) s8).put (some 9) s9) ∧ Below w1.heap.size w1 w' ∧ LdS (up 0) s21 (.agg #[.bool ng_x, .slice ao_x zs_x.length c_x]) ∧ ReS (up 1) w' s22 (N_x) 1048576 ∧ LdS (up 2) s23 (.agg #[.bool ng_y, .slice ao_y zs_y.length c_y]) ∧ ReS (up 3) w' s24 (N_y) 1048576 ∧ LdS (up 4) s25 (.agg #[.bool ng_z, .slice ao_z zs_z.length c_z]) ∧ ReS (up 5) w' s26 (N_z) 1048576 ∧ AlS (up 6) w1.heap.size w' s7 ∧ AlS (up 7) w1.heap.size w' s8 ∧ AlS (up 8) w1.heap.size w' s9 ∧ StS (up 9) (up 6) (up 1) w' s7 s22 ∧ StS (up 10) (up 7) (up 3) w' s8 s24 ∧ StS (up 11) (up 8) (up 5) w' s9 s26 ∧ UnS (up 6) (up 7) s7 s8 ∧ UnS (up 6) (up 8) s7 s9 ∧ UnS (up 7) (up 8) s8 s9) (by kernel_rfl) (by kernel_rfl) ?_ ?_ ?_
    · refine ⟨?q1_21, ?q1_22, ?q1_23, ?q1_24, ?q1_25, ?q1_26, ?q1_7, ?q1_8, ?q1_9, ?q1, (Below.refl _ _).drew, fun q => (by cases q), fun q => (by cases q), fun q => (by cases q), fun q => (by cases q), fun q => (by cases q), fun q => (by cases q), fun q => (by cases q), fun q => (by cases q), fun q => (by cases q), fun q => (by cases q), fun q => (by cases q), fun q => (by cases q), fun q => (by cases q), fun q => (by cases q), fun q => (by cases q)⟩
      case q1 =>
        simp only [Act.put, List.setIfInBounds_toArray, List.set_cons_zero, List.set_cons_succ]
        rfl
    · rintro up a wx i o ho ⟨s21, s22, s23, s24, s25, s26, s7, s8, s9, rfl, KW, o0, o1, o2, o3, o4, o5, o6, o7, o8, o9, o10, o11, n01, n02, n12⟩ hu hm K hK
      simp only [Act.put, List.setIfInBounds_toArray, List.set_cons_zero, List.set_cons_succ]
      have hi : i < 12 := (Array.getElem?_eq_some_iff.1 ho).1
      match i, hi with
      | 0, _ =>
        cases ho
        rw [if_pos (by rfl)]
        have p := (HC_x.out.below KW).c0
        have q := (HC_x.out.below KW).c1
        go_simp
        refine hK (fun k => if k = 0 then true else up k) _ _ rfl (fun k hk => if_neg hk) (⟨_, s22, s23, s24, s25, s26, s7, s8, s9, ?_, KW, (fun _ => rfl : _), (o1 : _), (o2 : _), (o3 : _), (o4 : _), (o5 : _), (o6 : _), (o7 : _), (o8 : _), (o9 : _), (o10 : _), (o11 : _), (n01 : _), (n02 : _), (n12 : _)⟩)
        simp only [Act.put, List.setIfInBounds_toArray, List.set_cons_zero, List.set_cons_succ]
      | 1, _ =>
        cases ho
        rw [if_pos (by rfl)]
        simp [MetB, Region.binds] at hm
        obtain rfl := o0 (by simp [hm])
        go_simp
        go_at_call 7
        with_reducible refine (wnorm_any (h_x.below KW) (by omega)).mono ?_
        rintro e wn ⟨v_t, rfl, t, hb⟩
        have tt := t.told
        refine hK (fun k => if k = 1 then true else up k) _ _ rfl (fun k hk => if_neg hk) (⟨_, _, s23, s24, s25, s26, s7, s8, s9, ?_, below_trans KW hb, (o0 : _), (fun _ => ⟨tt, t.low (Nat.zero_le _)⟩ : _), (o2 : _), (o3.below hb : _), (o4 : _), (o5.below hb : _), (o6.below hb : _), (o7.below hb : _), (o8.below hb : _), (o9.off (Or.inr hu) : _), (o10.below hb : _), (o11.below hb : _), (n01 : _), (n02 : _), (n12 : _)⟩)
        simp only [Act.put, List.setIfInBounds_toArray, List.set_cons_zero, List.set_cons_succ]
      | 2, _ =>
        cases ho
        rw [if_pos (by rfl)]
        have p := (HC_y.out.below KW).c0
        have q := (HC_y.out.below KW).c1
        go_simp
        refine hK (fun k => if k = 2 then true else up k) _ _ rfl (fun k hk => if_neg hk) (⟨s21, s22, _, s24, s25, s26, s7, s8, s9, ?_, KW, (o0 : _), (o1 : _), (fun _ => rfl : _), (o3 : _), (o4 : _), (o5 : _), (o6 : _), (o7 : _), (o8 : _), (o9 : _), (o10 : _), (o11 : _), (n01 : _), (n02 : _), (n12 : _)⟩)
        simp only [Act.put, List.setIfInBounds_toArray, List.set_cons_zero, List.set_cons_succ]
      | 3, _ =>
        cases ho
        rw [if_pos (by rfl)]
        simp [MetB, Region.binds] at hm
        obtain rfl := o2 (by simp [hm])
        go_simp
        go_at_call 7
        with_reducible refine (wnorm_any (h_y.below KW) (by omega)).mono ?_
        rintro e wn ⟨v_t, rfl, t, hb⟩
        have tt := t.told
        refine hK (fun k => if k = 3 then true else up k) _ _ rfl (fun k hk => if_neg hk) (⟨s21, s22, _, _, s25, s26, s7, s8, s9, ?_, below_trans KW hb, (o0 : _), (o1.below hb : _), (o2 : _), (fun _ => ⟨tt, t.low (Nat.zero_le _)⟩ : _), (o4 : _), (o5.below hb : _), (o6.below hb : _), (o7.below hb : _), (o8.below hb : _), (o9.below hb : _), (o10.off (Or.inr hu) : _), (o11.below hb : _), (n01 : _), (n02 : _), (n12 : _)⟩)
        simp only [Act.put, List.setIfInBounds_toArray, List.set_cons_zero, List.set_cons_succ]
      | 4, _ =>
        cases ho
        rw [if_pos (by rfl)]
        have p := (HC_z.out.below KW).c0
        have q := (HC_z.out.below KW).c1
        go_simp
        refine hK (fun k => if k = 4 then true else up k) _ _ rfl (fun k hk => if_neg hk) (⟨s21, s22, s23, s24, _, s26, s7, s8, s9, ?_, KW, (o0 : _), (o1 : _), (o2 : _), (o3 : _), (fun _ => rfl : _), (o5 : _), (o6 : _), (o7 : _), (o8 : _), (o9 : _), (o10 : _), (o11 : _), (n01 : _), (n02 : _), (n12 : _)⟩)
        simp only [Act.put, List.setIfInBounds_toArray, List.set_cons_zero, List.set_cons_succ]
      | 5, _ =>
        cases ho
        rw [if_pos (by rfl)]
        simp [MetB, Region.binds] at hm
        obtain rfl := o4 (by simp [hm])
        go_simp
        go_at_call 7
        with_reducible refine (wnorm_any (h_z.below KW) (by omega)).mono ?_
        rintro e wn ⟨v_t, rfl, t, hb⟩
        have tt := t.told
        refine hK (fun k => if k = 5 then true else up k) _ _ rfl (fun k hk => if_neg hk) (⟨s21, s22, s23, s24, _, _, s7, s8, s9, ?_, below_trans KW hb, (o0 : _), (o1.below hb : _), (o2 : _), (o3.below hb : _), (o4 : _), (fun _ => ⟨tt, t.low (Nat.zero_le _)⟩ : _), (o6.below hb : _), (o7.below hb : _), (o8.below hb : _), (o9.below hb : _), (o10.below hb : _), (o11.off (Or.inr hu) : _), (n01 : _), (n02 : _), (n12 : _)⟩)
        simp only [Act.put, List.setIfInBounds_toArray, List.set_cons_zero, List.set_cons_succ]
      | 6, _ =>
        cases ho
        rw [if_pos (by rfl)]
        go_simp
        refine hK (fun k => if k = 6 then true else up k) _ _ rfl (fun k hk => if_neg hk) (⟨s21, s22, s23, s24, s25, s26, _, s8, s9, ?_, below_trans KW (bel_alloc _ _), (o0 : _), (o1.below (bel_alloc _ _) : _), (o2 : _), (o3.below (bel_alloc _ _) : _), (o4 : _), (o5.below (bel_alloc _ _) : _), (AlS.new KW.size _ : _), (o7.below (bel_alloc _ _) : _), (o8.below (bel_alloc _ _) : _), (o9.off (Or.inl hu) : _), (o10.below (bel_alloc _ _) : _), (o11.below (bel_alloc _ _) : _), (o7.unlike' : _), (o8.unlike' : _), (n12 : _)⟩)
        simp only [Act.put, List.setIfInBounds_toArray, List.set_cons_zero, List.set_cons_succ]
      | 7, _ =>
        cases ho
        rw [if_pos (by rfl)]
        go_simp
        refine hK (fun k => if k = 7 then true else up k) _ _ rfl (fun k hk => if_neg hk) (⟨s21, s22, s23, s24, s25, s26, s7, _, s9, ?_, below_trans KW (bel_alloc _ _), (o0 : _), (o1.below (bel_alloc _ _) : _), (o2 : _), (o3.below (bel_alloc _ _) : _), (o4 : _), (o5.below (bel_alloc _ _) : _), (o6.below (bel_alloc _ _) : _), (AlS.new KW.size _ : _), (o8.below (bel_alloc _ _) : _), (o9.below (bel_alloc _ _) : _), (o10.off (Or.inl hu) : _), (o11.below (bel_alloc _ _) : _), (o6.unlike : _), (n02 : _), (o8.unlike' : _)⟩)
        simp only [Act.put, List.setIfInBounds_toArray, List.set_cons_zero, List.set_cons_succ]
      | 8, _ =>
        cases ho
        rw [if_pos (by rfl)]
        go_simp
        refine hK (fun k => if k = 8 then true else up k) _ _ rfl (fun k hk => if_neg hk) (⟨s21, s22, s23, s24, s25, s26, s7, s8, _, ?_, below_trans KW (bel_alloc _ _), (o0 : _), (o1.below (bel_alloc _ _) : _), (o2 : _), (o3.below (bel_alloc _ _) : _), (o4 : _), (o5.below (bel_alloc _ _) : _), (o6.below (bel_alloc _ _) : _), (o7.below (bel_alloc _ _) : _), (AlS.new KW.size _ : _), (o9.below (bel_alloc _ _) : _), (o10.below (bel_alloc _ _) : _), (o11.off (Or.inl hu) : _), (n01 : _), (o6.unlike : _), (o7.unlike : _)⟩)
        simp only [Act.put, List.setIfInBounds_toArray, List.set_cons_zero, List.set_cons_succ]
      | 9, _ =>
        cases ho
        rw [if_pos (by rfl)]
        simp [MetB, Region.binds] at hm
        obtain ⟨c, z, u, rfl, hc, Z⟩ := o6 (by simp [hm])
        obtain ⟨⟨ng, ro, rl, rfl⟩, t⟩ := o1 (by simp [hm])
        have f0 := Z.f0
        have f1 := Z.f1
        have c0 := Z.c0
        have c1 := Z.c1
        go_simp
        refine hK (fun k => if k = 9 then true else up k) _ _ rfl (fun k hk => if_neg hk) (⟨s21, _, s23, s24, s25, s26, _, s8, s9, ?_, below_put2 KW hc _ _, (o0 : _), (o1.putc Z _ _ : _), (o2 : _), (o3.putc Z _ _ : _), (o4 : _), (o5.putc Z _ _ : _), (o6.putc Z _ _ : _), (o7.putc Z _ _ : _), (o8.putc Z _ _ : _), (fun _ => ⟨by simp [hm], by simp [hm], c, _, _, rfl, rfl, Z.put _ _⟩ : _), (o10.away (fun e => n01.symm (o10 e).1 (by simp [hm])) _ _ : _), (o11.away (fun e => n02.symm (o11 e).1 (by simp [hm])) _ _ : _), (n01 : _), (n02 : _), (n12 : _)⟩)
        simp only [Act.put, List.setIfInBounds_toArray, List.set_cons_zero, List.set_cons_succ]
      | 10, _ =>
        cases ho
        rw [if_pos (by rfl)]
        simp [MetB, Region.binds] at hm
        obtain ⟨c, z, u, rfl, hc, Z⟩ := o7 (by simp [hm])
        obtain ⟨⟨ng, ro, rl, rfl⟩, t⟩ := o3 (by simp [hm])
        have f0 := Z.f0
        have f1 := Z.f1
        have c0 := Z.c0
        have c1 := Z.c1
        go_simp
        refine hK (fun k => if k = 10 then true else up k) _ _ rfl (fun k hk => if_neg hk) (⟨s21, s22, s23, _, s25, s26, s7, _, s9, ?_, below_put2 KW hc _ _, (o0 : _), (o1.putc Z _ _ : _), (o2 : _), (o3.putc Z _ _ : _), (o4 : _), (o5.putc Z _ _ : _), (o6.putc Z _ _ : _), (o7.putc Z _ _ : _), (o8.putc Z _ _ : _), (o9.away (fun e => n01 (o9 e).1 (by simp [hm])) _ _ : _), (fun _ => ⟨by simp [hm], by simp [hm], c, _, _, rfl, rfl, Z.put _ _⟩ : _), (o11.away (fun e => n12.symm (o11 e).1 (by simp [hm])) _ _ : _), (n01 : _), (n02 : _), (n12 : _)⟩)
        simp only [Act.put, List.setIfInBounds_toArray, List.set_cons_zero, List.set_cons_succ]
      | 11, _ =>
        cases ho
        rw [if_pos (by rfl)]
        simp [MetB, Region.binds] at hm
        obtain ⟨c, z, u, rfl, hc, Z⟩ := o8 (by simp [hm])
        obtain ⟨⟨ng, ro, rl, rfl⟩, t⟩ := o5 (by simp [hm])
        have f0 := Z.f0
        have f1 := Z.f1
        have c0 := Z.c0
        have c1 := Z.c1
        go_simp
        refine hK (fun k => if k = 11 then true else up k) _ _ rfl (fun k hk => if_neg hk) (⟨s21, s22, s23, s24, s25, _, s7, s8, _, ?_, below_put2 KW hc _ _, (o0 : _), (o1.putc Z _ _ : _), (o2 : _), (o3.putc Z _ _ : _), (o4 : _), (o5.putc Z _ _ : _), (o6.putc Z _ _ : _), (o7.putc Z _ _ : _), (o8.putc Z _ _ : _), (o9.away (fun e => n02 (o9 e).1 (by simp [hm])) _ _ : _), (o10.away (fun e => n12 (o10 e).1 (by simp [hm])) _ _ : _), (fun _ => ⟨by simp [hm], by simp [hm], c, _, _, rfl, rfl, Z.put _ _⟩ : _), (n01 : _), (n02 : _), (n12 : _)⟩)
        simp only [Act.put, List.setIfInBounds_toArray, List.set_cons_zero, List.set_cons_succ]
    · rintro up a wx ⟨s21, s22, s23, s24, s25, s26, s7, s8, s9, rfl, KW, o0, o1, o2, o3, o4, o5, o6, o7, o8, o9, o10, o11, n01, n02, n12⟩ hall
      simp only [Act.put, List.setIfInBounds_toArray, List.set_cons_zero, List.set_cons_succ]
      obtain ⟨-, -, b_a, x_a, y_a, rfl, e_a, C_a⟩ := o9 (hall 9 (by decide))
      obtain ⟨⟨ng_a, ro_a, rl_a, rfl⟩, t_a⟩ := o1 (hall 1 (by decide))
      cases e_a
      obtain ⟨-, -, b_b, x_b, y_b, rfl, e_b, C_b⟩ := o10 (hall 10 (by decide))
      obtain ⟨⟨ng_b, ro_b, rl_b, rfl⟩, t_b⟩ := o3 (hall 3 (by decide))
      cases e_b
      obtain ⟨-, -, b_c, x_c, y_c, rfl, e_c, C_c⟩ := o11 (hall 11 (by decide))
      obtain ⟨⟨ng_c, ro_c, rl_c, rfl⟩, t_c⟩ := o5 (hall 5 (by decide))
      cases e_c
      go_wp2_with fail
      go_meet
      case rel => exact ⟨_, _, _, _, _, _, _, _, _, _, _, _, rfl, C_a, t_a, rfl, C_b, t_b, rfl, C_c, t_c, KW⟩
  case rest =>
  obtain ⟨b_a, ng_a, ro_a, rl_a, b_b, ng_b, ro_b, rl_b, b_c, ng_c, ro_c, rl_c, rfl, C_a, h_a, rfl, C_b, h_b, rfl, C_c, h_c, K⟩ := hcut
  rename World => w2
  replace KB := below_trans KB K
  replace h_x := h_x.below K
  replace HC_x := hide (HC_x.out.below K)
  replace h_y := h_y.below K
  replace HC_y := hide (HC_y.out.below K)
  replace h_z := h_z.below K
  replace HC_z := hide (HC_z.out.below K)
  clear K
  have HC_a := hide C_a
  clear C_a
  have HC_b := hide C_b
  clear C_b
  have HC_c := hide C_c
  clear C_c
  clear h_x h_y h_z HC_x HC_y HC_z
  go_upto_region 4 with fail
  go_cut [10, 11] from 27 (fun s10 s11 w' => ∃ b_ab ng_ab ro_ab rl_ab b_bc ng_bc ro_bc rl_bc, s10 = .pointer (some ⟨b_ab, 0, none⟩) ∧ Cell2 w' b_ab (.bool ng_ab) (.slice ro_ab rl_ab rl_ab) ∧ WNum 0 w' (.agg #[.bool ng_ab, .slice ro_ab rl_ab rl_ab]) (N_x + N_y) (max 1048576 1048576 + 1) ∧ s11 = .pointer (some ⟨b_bc, 0, none⟩) ∧ Cell2 w' b_bc (.bool ng_bc) (.slice ro_bc rl_bc rl_bc) ∧ WNum 0 w' (.agg #[.bool ng_bc, .slice ro_bc rl_bc rl_bc]) (N_y + N_z) (max 1048576 1048576 + 1) ∧ Below w2.heap.size w2 w')
  case first =>
    refine wpInvA (J := fun a0 up a w' => ∃ s27 s28 s29 s30 s31 s32 s10 s11, a = ((((((((a0.put (some 27) s27).put (some 28) s28).put (some 29) s29).put (some 30) s30).put (some 31) s31).put (some 32) s32).put (some 10) s10).put (some 11) s11) ∧ Below w2.heap.size w2 w' ∧ LdS (up 0) s27 (.agg #[.bool ng_a, .slice ro_a rl_a rl_a]) ∧ LdS (up 1) s28 (.agg #[.bool ng_b, .slice ro_b rl_b rl_b]) ∧ ReS (up 2) w' s29 (N_x + N_y) (max 1048576 1048576 + 1) ∧ LdS (up 3) s30 (.agg #[.bool ng_b, .slice ro_b rl_b rl_b]) ∧ LdS (up 4) s31 (.agg #[.bool ng_c, .slice ro_c rl_c rl_c]) ∧ ReS (up 5) w' s32 (N_y + N_z) (max 1048576 1048576 + 1) ∧ AlS (up 6) w2.heap.size w' s10 ∧ AlS (up 7) w2.heap.size w' s11 ∧ StS (up 8) (up 6) (up 2) w' s10 s29 ∧ StS (up 9) (up 7) (up 5) w' s11 s32 ∧ UnS (up 6) (up 7) s10 s11) (by kernel_rfl) (by kernel_rfl) ?_ ?_ ?_
    · refine ⟨?q2_27, ?q2_28, ?q2_29, ?q2_30, ?q2_31, ?q2_32, ?q2_10, ?q2_11, ?q2, (Below.refl _ _).drew, fun q => (by cases q), fun q => (by cases q), fun q => (by cases q), fun q => (by cases q), fun q => (by cases q), fun q => (by cases q), fun q => (by cases q), fun q => (by cases q), fun q => (by cases q), fun q => (by cases q), fun q => (by cases q)⟩
      case q2 =>
        simp only [Act.put, List.setIfInBounds_toArray, List.set_cons_zero, List.set_cons_succ]
        rfl
    · rintro up a wx i o ho ⟨s27, s28, s29, s30, s31, s32, s10, s11, rfl, KW, o0, o1, o2, o3, o4, o5, o6, o7, o8, o9, n01⟩ hu hm K hK
      simp only [Act.put, List.setIfInBounds_toArray, List.set_cons_zero, List.set_cons_succ]
      have hi : i < 10 := (Array.getElem?_eq_some_iff.1 ho).1
      match i, hi with
      | 0, _ =>
        cases ho
        rw [if_pos (by rfl)]
        have p := (HC_a.out.below KW).c0
        have q := (HC_a.out.below KW).c1
        go_simp
        refine hK (fun k => if k = 0 then true else up k) _ _ rfl (fun k hk => if_neg hk) (⟨_, s28, s29, s30, s31, s32, s10, s11, ?_, KW, (fun _ => rfl : _), (o1 : _), (o2 : _), (o3 : _), (o4 : _), (o5 : _), (o6 : _), (o7 : _), (o8 : _), (o9 : _), (n01 : _)⟩)
        simp only [Act.put, List.setIfInBounds_toArray, List.set_cons_zero, List.set_cons_succ]
      | 1, _ =>
        cases ho
        rw [if_pos (by rfl)]
        have p := (HC_b.out.below KW).c0
        have q := (HC_b.out.below KW).c1
        go_simp
        refine hK (fun k => if k = 1 then true else up k) _ _ rfl (fun k hk => if_neg hk) (⟨s27, _, s29, s30, s31, s32, s10, s11, ?_, KW, (o0 : _), (fun _ => rfl : _), (o2 : _), (o3 : _), (o4 : _), (o5 : _), (o6 : _), (o7 : _), (o8 : _), (o9 : _), (n01 : _)⟩)
        simp only [Act.put, List.setIfInBounds_toArray, List.set_cons_zero, List.set_cons_succ]
      | 2, _ =>
        cases ho
        rw [if_pos (by rfl)]
        simp [MetB, Region.binds] at hm
        obtain rfl := o0 (by simp [hm])
        obtain rfl := o1 (by simp [hm])
        go_simp
        go_at_call 8
        with_reducible refine (wadd_any (h_a.arg.below KW) (by omega) (h_b.arg.below KW) (by omega)).mono ?_
        rintro e wn ⟨v_t, rfl, t, hb⟩
        have tt := t.told
        refine hK (fun k => if k = 2 then true else up k) _ _ rfl (fun k hk => if_neg hk) (⟨_, _, _, s30, s31, s32, s10, s11, ?_, below_trans KW hb, (o0 : _), (o1 : _), (fun _ => ⟨tt, t.low (Nat.zero_le _)⟩ : _), (o3 : _), (o4 : _), (o5.below hb : _), (o6.below hb : _), (o7.below hb : _), (o8.off (Or.inr hu) : _), (o9.below hb : _), (n01 : _)⟩)
        simp only [Act.put, List.setIfInBounds_toArray, List.set_cons_zero, List.set_cons_succ]
      | 3, _ =>
        cases ho
        rw [if_pos (by rfl)]
        have p := (HC_b.out.below KW).c0
        have q := (HC_b.out.below KW).c1
        go_simp
        refine hK (fun k => if k = 3 then true else up k) _ _ rfl (fun k hk => if_neg hk) (⟨s27, s28, s29, _, s31, s32, s10, s11, ?_, KW, (o0 : _), (o1 : _), (o2 : _), (fun _ => rfl : _), (o4 : _), (o5 : _), (o6 : _), (o7 : _), (o8 : _), (o9 : _), (n01 : _)⟩)
        simp only [Act.put, List.setIfInBounds_toArray, List.set_cons_zero, List.set_cons_succ]
      | 4, _ =>
        cases ho
        rw [if_pos (by rfl)]
        have p := (HC_c.out.below KW).c0
        have q := (HC_c.out.below KW).c1
        go_simp
        refine hK (fun k => if k = 4 then true else up k) _ _ rfl (fun k hk => if_neg hk) (⟨s27, s28, s29, s30, _, s32, s10, s11, ?_, KW, (o0 : _), (o1 : _), (o2 : _), (o3 : _), (fun _ => rfl : _), (o5 : _), (o6 : _), (o7 : _), (o8 : _), (o9 : _), (n01 : _)⟩)
        simp only [Act.put, List.setIfInBounds_toArray, List.set_cons_zero, List.set_cons_succ]
      | 5, _ =>
        cases ho
        rw [if_pos (by rfl)]
        simp [MetB, Region.binds] at hm
        obtain rfl := o3 (by simp [hm])
        obtain rfl := o4 (by simp [hm])
        go_simp
        go_at_call 8
        with_reducible refine (wadd_any (h_b.arg.below KW) (by omega) (h_c.arg.below KW) (by omega)).mono ?_
        rintro e wn ⟨v_t, rfl, t, hb⟩
        have tt := t.told
        refine hK (fun k => if k = 5 then true else up k) _ _ rfl (fun k hk => if_neg hk) (⟨s27, s28, s29, _, _, _, s10, s11, ?_, below_trans KW hb, (o0 : _), (o1 : _), (o2.below hb : _), (o3 : _), (o4 : _), (fun _ => ⟨tt, t.low (Nat.zero_le _)⟩ : _), (o6.below hb : _), (o7.below hb : _), (o8.below hb : _), (o9.off (Or.inr hu) : _), (n01 : _)⟩)
        simp only [Act.put, List.setIfInBounds_toArray, List.set_cons_zero, List.set_cons_succ]
      | 6, _ =>
        cases ho
        rw [if_pos (by rfl)]
        go_simp
        refine hK (fun k => if k = 6 then true else up k) _ _ rfl (fun k hk => if_neg hk) (⟨s27, s28, s29, s30, s31, s32, _, s11, ?_, below_trans KW (bel_alloc _ _), (o0 : _), (o1 : _), (o2.below (bel_alloc _ _) : _), (o3 : _), (o4 : _), (o5.below (bel_alloc _ _) : _), (AlS.new KW.size _ : _), (o7.below (bel_alloc _ _) : _), (o8.off (Or.inl hu) : _), (o9.below (bel_alloc _ _) : _), (o7.unlike' : _)⟩)
        simp only [Act.put, List.setIfInBounds_toArray, List.set_cons_zero, List.set_cons_succ]
      | 7, _ =>
        cases ho
        rw [if_pos (by rfl)]
        go_simp
        refine hK (fun k => if k = 7 then true else up k) _ _ rfl (fun k hk => if_neg hk) (⟨s27, s28, s29, s30, s31, s32, s10, _, ?_, below_trans KW (bel_alloc _ _), (o0 : _), (o1 : _), (o2.below (bel_alloc _ _) : _), (o3 : _), (o4 : _), (o5.below (bel_alloc _ _) : _), (o6.below (bel_alloc _ _) : _), (AlS.new KW.size _ : _), (o8.below (bel_alloc _ _) : _), (o9.off (Or.inl hu) : _), (o6.unlike : _)⟩)
        simp only [Act.put, List.setIfInBounds_toArray, List.set_cons_zero, List.set_cons_succ]
      | 8, _ =>
        cases ho
        rw [if_pos (by rfl)]
        simp [MetB, Region.binds] at hm
        obtain ⟨c, z, u, rfl, hc, Z⟩ := o6 (by simp [hm])
        obtain ⟨⟨ng, ro, rl, rfl⟩, t⟩ := o2 (by simp [hm])
        have f0 := Z.f0
        have f1 := Z.f1
        have c0 := Z.c0
        have c1 := Z.c1
        go_simp
        refine hK (fun k => if k = 8 then true else up k) _ _ rfl (fun k hk => if_neg hk) (⟨s27, s28, _, s30, s31, s32, _, s11, ?_, below_put2 KW hc _ _, (o0 : _), (o1 : _), (o2.putc Z _ _ : _), (o3 : _), (o4 : _), (o5.putc Z _ _ : _), (o6.putc Z _ _ : _), (o7.putc Z _ _ : _), (fun _ => ⟨by simp [hm], by simp [hm], c, _, _, rfl, rfl, Z.put _ _⟩ : _), (o9.away (fun e => n01.symm (o9 e).1 (by simp [hm])) _ _ : _), (n01 : _)⟩)
        simp only [Act.put, List.setIfInBounds_toArray, List.set_cons_zero, List.set_cons_succ]
      | 9, _ =>
        cases ho
        rw [if_pos (by rfl)]
        simp [MetB, Region.binds] at hm
        obtain ⟨c, z, u, rfl, hc, Z⟩ := o7 (by simp [hm])
        obtain ⟨⟨ng, ro, rl, rfl⟩, t⟩ := o5 (by simp [hm])
        have f0 := Z.f0
        have f1 := Z.f1
        have c0 := Z.c0
        have c1 := Z.c1
        go_simp
        refine hK (fun k => if k = 9 then true else up k) _ _ rfl (fun k hk => if_neg hk) (⟨s27, s28, s29, s30, s31, _, s10, _, ?_, below_put2 KW hc _ _, (o0 : _), (o1 : _), (o2.putc Z _ _ : _), (o3 : _), (o4 : _), (o5.putc Z _ _ : _), (o6.putc Z _ _ : _), (o7.putc Z _ _ : _), (o8.away (fun e => n01 (o8 e).1 (by simp [hm])) _ _ : _), (fun _ => ⟨by simp [hm], by simp [hm], c, _, _, rfl, rfl, Z.put _ _⟩ : _), (n01 : _)⟩)
        simp only [Act.put, List.setIfInBounds_toArray, List.set_cons_zero, List.set_cons_succ]
    · rintro up a wx ⟨s27, s28, s29, s30, s31, s32, s10, s11, rfl, KW, o0, o1, o2, o3, o4, o5, o6, o7, o8, o9, n01⟩ hall
      simp only [Act.put, List.setIfInBounds_toArray, List.set_cons_zero, List.set_cons_succ]
      obtain ⟨-, -, b_ab, x_ab, y_ab, rfl, e_ab, C_ab⟩ := o8 (hall 8 (by decide))
      obtain ⟨⟨ng_ab, ro_ab, rl_ab, rfl⟩, t_ab⟩ := o2 (hall 2 (by decide))
      cases e_ab
      obtain ⟨-, -, b_bc, x_bc, y_bc, rfl, e_bc, C_bc⟩ := o9 (hall 9 (by decide))
      obtain ⟨⟨ng_bc, ro_bc, rl_bc, rfl⟩, t_bc⟩ := o5 (hall 5 (by decide))
      cases e_bc
      go_wp2_with fail
      go_meet
      case rel => exact ⟨_, _, _, _, _, _, _, _, rfl, C_ab, t_ab, rfl, C_bc, t_bc, KW⟩
  case rest =>
  obtain ⟨b_ab, ng_ab, ro_ab, rl_ab, b_bc, ng_bc, ro_bc, rl_bc, rfl, C_ab, h_ab, rfl, C_bc, h_bc, K⟩ := hcut
  rename World => w3
  replace KB := below_trans KB K
  replace h_a := h_a.below K
  replace HC_a := hide (HC_a.out.below K)
  replace h_b := h_b.below K
  replace HC_b := hide (HC_b.out.below K)
  replace h_c := h_c.below K
  replace HC_c := hide (HC_c.out.below K)
  clear K
  have HC_ab := hide C_ab
  clear C_ab
  have HC_bc := hide C_bc
  clear C_bc
  go_upto_region 5 with fail
  go_cut [12, 13] from 33 (fun s12 s13 w' => ∃ b_p ng_p ro_p rl_p b_q ng_q ro_q rl_q, s12 = .pointer (some ⟨b_p, 0, none⟩) ∧ Cell2 w' b_p (.bool ng_p) (.slice ro_p rl_p rl_p) ∧ WNum 0 w' (.agg #[.bool ng_p, .slice ro_p rl_p rl_p]) (N_x * N_y) (1048576 + 1048576) ∧ s13 = .pointer (some ⟨b_q, 0, none⟩) ∧ Cell2 w' b_q (.bool ng_q) (.slice ro_q rl_q rl_q) ∧ WNum 0 w' (.agg #[.bool ng_q, .slice ro_q rl_q rl_q]) (N_y * N_z) (1048576 + 1048576) ∧ Below w3.heap.size w3 w')
  case first =>
    refine wpInvA (J := fun a0 up a w' => ∃ s33 s34 s35 s36 s37 s38 s12 s13, a = ((((((((a0.put (some 33) s33).put (some 34) s34).put (some 35) s35).put (some 36) s36).put (some 37) s37).put (some 38) s38).put (some 12) s12).put (some 13) s13) ∧ Below w3.heap.size w3 w' ∧ LdS (up 0) s33 (.agg #[.bool ng_a, .slice ro_a rl_a rl_a]) ∧ LdS (up 1) s34 (.agg #[.bool ng_b, .slice ro_b rl_b rl_b]) ∧ ReS (up 2) w' s35 (N_x * N_y) (1048576 + 1048576) ∧ LdS (up 3) s36 (.agg #[.bool ng_b, .slice ro_b rl_b rl_b]) ∧ LdS (up 4) s37 (.agg #[.bool ng_c, .slice ro_c rl_c rl_c]) ∧ ReS (up 5) w' s38 (N_y * N_z) (1048576 + 1048576) ∧ AlS (up 6) w3.heap.size w' s12 ∧ AlS (up 7) w3.heap.size w' s13 ∧ StS (up 8) (up 6) (up 2) w' s12 s35 ∧ StS (up 9) (up 7) (up 5) w' s13 s38 ∧ UnS (up 6) (up 7) s12 s13) (by kernel_rfl) (by kernel_rfl) ?_ ?_ ?_
    · refine ⟨?q3_33, ?q3_34, ?q3_35, ?q3_36, ?q3_37, ?q3_38, ?q3_12, ?q3_13, ?q3, (Below.refl _ _).drew, fun q => (by cases q), fun q => (by cases q), fun q => (by cases q), fun q => (by cases q), fun q => (by cases q), fun q => (by cases q), fun q => (by cases q), fun q => (by cases q), fun q => (by cases q), fun q => (by cases q), fun q => (by cases q)⟩
      case q3 =>
        simp only [Act.put, List.setIfInBounds_toArray, List.set_cons_zero, List.set_cons_succ]
        rfl
    · rintro up a wx i o ho ⟨s33, s34, s35, s36, s37, s38, s12, s13, rfl, KW, o0, o1, o2, o3, o4, o5, o6, o7, o8, o9, n01⟩ hu hm K hK
      simp only [Act.put, List.setIfInBounds_toArray, List.set_cons_zero, List.set_cons_succ]
      have hi : i < 10 := (Array.getElem?_eq_some_iff.1 ho).1
      match i, hi with
      | 0, _ =>
        cases ho
        rw [if_pos (by rfl)]
        have p := (HC_a.out.below KW).c0
        have q := (HC_a.out.below KW).c1
        go_simp
        refine hK (fun k => if k = 0 then true else up k) _ _ rfl (fun k hk => if_neg hk) (⟨_, s34, s35, s36, s37, s38, s12, s13, ?_, KW, (fun _ => rfl : _), (o1 : _), (o2 : _), (o3 : _), (o4 : _), (o5 : _), (o6 : _), (o7 : _), (o8 : _), (o9 : _), (n01 : _)⟩)
        simp only [Act.put, List.setIfInBounds_toArray, List.set_cons_zero, List.set_cons_succ]
      | 1, _ =>
        cases ho
        rw [if_pos (by rfl)]
        have p := (HC_b.out.below KW).c0
        have q := (HC_b.out.below KW).c1
        go_simp
        refine hK (fun k => if k = 1 then true else up k) _ _ rfl (fun k hk => if_neg hk) (⟨s33, _, s35, s36, s37, s38, s12, s13, ?_, KW, (o0 : _), (fun _ => rfl : _), (o2 : _), (o3 : _), (o4 : _), (o5 : _), (o6 : _), (o7 : _), (o8 : _), (o9 : _), (n01 : _)⟩)
        simp only [Act.put, List.setIfInBounds_toArray, List.set_cons_zero, List.set_cons_succ]
      | 2, _ =>
        cases ho
        rw [if_pos (by rfl)]
        simp [MetB, Region.binds] at hm
        obtain rfl := o0 (by simp [hm])
        obtain rfl := o1 (by simp [hm])
        go_simp
        go_at_call 9
        with_reducible refine (wmul_any (h_a.arg.below KW) (by omega) (h_b.arg.below KW) (by omega)).mono ?_
        rintro e wn ⟨v_t, rfl, t, hb⟩
        have tt := t.told
        refine hK (fun k => if k = 2 then true else up k) _ _ rfl (fun k hk => if_neg hk) (⟨_, _, _, s36, s37, s38, s12, s13, ?_, below_trans KW hb, (o0 : _), (o1 : _), (fun _ => ⟨tt, t.low (Nat.zero_le _)⟩ : _), (o3 : _), (o4 : _), (o5.below hb : _), (o6.below hb : _), (o7.below hb : _), (o8.off (Or.inr hu) : _), (o9.below hb : _), (n01 : _)⟩)
        simp only [Act.put, List.setIfInBounds_toArray, List.set_cons_zero, List.set_cons_succ]
      | 3, _ =>
        cases ho
        rw [if_pos (by rfl)]
        have p := (HC_b.out.below KW).c0
        have q := (HC_b.out.below KW).c1
        go_simp
        refine hK (fun k => if k = 3 then true else up k) _ _ rfl (fun k hk => if_neg hk) (⟨s33, s34, s35, _, s37, s38, s12, s13, ?_, KW, (o0 : _), (o1 : _), (o2 : _), (fun _ => rfl : _), (o4 : _), (o5 : _), (o6 : _), (o7 : _), (o8 : _), (o9 : _), (n01 : _)⟩)
        simp only [Act.put, List.setIfInBounds_toArray, List.set_cons_zero, List.set_cons_succ]
      | 4, _ =>
        cases ho
        rw [if_pos (by rfl)]
        have p := (HC_c.out.below KW).c0
        have q := (HC_c.out.below KW).c1
        go_simp
        refine hK (fun k => if k = 4 then true else up k) _ _ rfl (fun k hk => if_neg hk) (⟨s33, s34, s35, s36, _, s38, s12, s13, ?_, KW, (o0 : _), (o1 : _), (o2 : _), (o3 : _), (fun _ => rfl : _), (o5 : _), (o6 : _), (o7 : _), (o8 : _), (o9 : _), (n01 : _)⟩)
        simp only [Act.put, List.setIfInBounds_toArray, List.set_cons_zero, List.set_cons_succ]
      | 5, _ =>
        cases ho
        rw [if_pos (by rfl)]
        simp [MetB, Region.binds] at hm
        obtain rfl := o3 (by simp [hm])
        obtain rfl := o4 (by simp [hm])
        go_simp
        go_at_call 9
        with_reducible refine (wmul_any (h_b.arg.below KW) (by omega) (h_c.arg.below KW) (by omega)).mono ?_
        rintro e wn ⟨v_t, rfl, t, hb⟩
        have tt := t.told
        refine hK (fun k => if k = 5 then true else up k) _ _ rfl (fun k hk => if_neg hk) (⟨s33, s34, s35, _, _, _, s12, s13, ?_, below_trans KW hb, (o0 : _), (o1 : _), (o2.below hb : _), (o3 : _), (o4 : _), (fun _ => ⟨tt, t.low (Nat.zero_le _)⟩ : _), (o6.below hb : _), (o7.below hb : _), (o8.below hb : _), (o9.off (Or.inr hu) : _), (n01 : _)⟩)
        simp only [Act.put, List.setIfInBounds_toArray, List.set_cons_zero, List.set_cons_succ]
      | 6, _ =>
        cases ho
        rw [if_pos (by rfl)]
        go_simp
        refine hK (fun k => if k = 6 then true else up k) _ _ rfl (fun k hk => if_neg hk) (⟨s33, s34, s35, s36, s37, s38, _, s13, ?_, below_trans KW (bel_alloc _ _), (o0 : _), (o1 : _), (o2.below (bel_alloc _ _) : _), (o3 : _), (o4 : _), (o5.below (bel_alloc _ _) : _), (AlS.new KW.size _ : _), (o7.below (bel_alloc _ _) : _), (o8.off (Or.inl hu) : _), (o9.below (bel_alloc _ _) : _), (o7.unlike' : _)⟩)
        simp only [Act.put, List.setIfInBounds_toArray, List.set_cons_zero, List.set_cons_succ]
      | 7, _ =>
        cases ho
        rw [if_pos (by rfl)]
        go_simp
        refine hK (fun k => if k = 7 then true else up k) _ _ rfl (fun k hk => if_neg hk) (⟨s33, s34, s35, s36, s37, s38, s12, _, ?_, below_trans KW (bel_alloc _ _), (o0 : _), (o1 : _), (o2.below (bel_alloc _ _) : _), (o3 : _), (o4 : _), (o5.below (bel_alloc _ _) : _), (o6.below (bel_alloc _ _) : _), (AlS.new KW.size _ : _), (o8.below (bel_alloc _ _) : _), (o9.off (Or.inl hu) : _), (o6.unlike : _)⟩)
        simp only [Act.put, List.setIfInBounds_toArray, List.set_cons_zero, List.set_cons_succ]
      | 8, _ =>
        cases ho
        rw [if_pos (by rfl)]
        simp [MetB, Region.binds] at hm
        obtain ⟨c, z, u, rfl, hc, Z⟩ := o6 (by simp [hm])
        obtain ⟨⟨ng, ro, rl, rfl⟩, t⟩ := o2 (by simp [hm])
        have f0 := Z.f0
        have f1 := Z.f1
        have c0 := Z.c0
        have c1 := Z.c1
        go_simp
        refine hK (fun k => if k = 8 then true else up k) _ _ rfl (fun k hk => if_neg hk) (⟨s33, s34, _, s36, s37, s38, _, s13, ?_, below_put2 KW hc _ _, (o0 : _), (o1 : _), (o2.putc Z _ _ : _), (o3 : _), (o4 : _), (o5.putc Z _ _ : _), (o6.putc Z _ _ : _), (o7.putc Z _ _ : _), (fun _ => ⟨by simp [hm], by simp [hm], c, _, _, rfl, rfl, Z.put _ _⟩ : _), (o9.away (fun e => n01.symm (o9 e).1 (by simp [hm])) _ _ : _), (n01 : _)⟩)
        simp only [Act.put, List.setIfInBounds_toArray, List.set_cons_zero, List.set_cons_succ]
      | 9, _ =>
        cases ho
        rw [if_pos (by rfl)]
        simp [MetB, Region.binds] at hm
        obtain ⟨c, z, u, rfl, hc, Z⟩ := o7 (by simp [hm])
        obtain ⟨⟨ng, ro, rl, rfl⟩, t⟩ := o5 (by simp [hm])
        have f0 := Z.f0
        have f1 := Z.f1
        have c0 := Z.c0
        have c1 := Z.c1
        go_simp
        refine hK (fun k => if k = 9 then true else up k) _ _ rfl (fun k hk => if_neg hk) (⟨s33, s34, s35, s36, s37, _, s12, _, ?_, below_put2 KW hc _ _, (o0 : _), (o1 : _), (o2.putc Z _ _ : _), (o3 : _), (o4 : _), (o5.putc Z _ _ : _), (o6.putc Z _ _ : _), (o7.putc Z _ _ : _), (o8.away (fun e => n01 (o8 e).1 (by simp [hm])) _ _ : _), (fun _ => ⟨by simp [hm], by simp [hm], c, _, _, rfl, rfl, Z.put _ _⟩ : _), (n01 : _)⟩)
        simp only [Act.put, List.setIfInBounds_toArray, List.set_cons_zero, List.set_cons_succ]
    · rintro up a wx ⟨s33, s34, s35, s36, s37, s38, s12, s13, rfl, KW, o0, o1, o2, o3, o4, o5, o6, o7, o8, o9, n01⟩ hall
      simp only [Act.put, List.setIfInBounds_toArray, List.set_cons_zero, List.set_cons_succ]
      obtain ⟨-, -, b_p, x_p, y_p, rfl, e_p, C_p⟩ := o8 (hall 8 (by decide))
      obtain ⟨⟨ng_p, ro_p, rl_p, rfl⟩, t_p⟩ := o2 (hall 2 (by decide))
      cases e_p
      obtain ⟨-, -, b_q, x_q, y_q, rfl, e_q, C_q⟩ := o9 (hall 9 (by decide))
      obtain ⟨⟨ng_q, ro_q, rl_q, rfl⟩, t_q⟩ := o5 (hall 5 (by decide))
      cases e_q
      go_wp2_with fail
      go_meet
      case rel => exact ⟨_, _, _, _, _, _, _, _, rfl, C_p, t_p, rfl, C_q, t_q, KW⟩
  case rest =>
  obtain ⟨b_p, ng_p, ro_p, rl_p, b_q, ng_q, ro_q, rl_q, rfl, C_p, h_p, rfl, C_q, h_q, K⟩ := hcut
  rename World => w4
  replace KB := below_trans KB K
  replace h_a := h_a.below K
  replace HC_a := hide (HC_a.out.below K)
  replace h_b := h_b.below K
  replace HC_b := hide (HC_b.out.below K)
  replace h_c := h_c.below K
  replace HC_c := hide (HC_c.out.below K)
  replace h_ab := h_ab.below K
  replace HC_ab := hide (HC_ab.out.below K)
  replace h_bc := h_bc.below K
  replace HC_bc := hide (HC_bc.out.below K)
  clear K
  have HC_p := hide C_p
  clear C_p
  have HC_q := hide C_q
  clear C_q
  go_upto_region 6 with fail
  go_cut [69] from 39 (fun s69 w' => s69 = .bool false ∧ Below w4.heap.size w4 w')
  case first =>
    have CC : ∀ u : World, Below w4.heap.size w4 u → u.cell? ⟨b_a, 0, none⟩ = some (.bool ng_a) ∧ u.cell? ⟨b_a, 1, none⟩ = some (.slice ro_a rl_a rl_a) ∧ u.cell? ⟨b_ab, 0, none⟩ = some (.bool ng_ab) ∧ u.cell? ⟨b_ab, 1, none⟩ = some (.slice ro_ab rl_ab rl_ab) ∧ u.cell? ⟨b_p, 0, none⟩ = some (.bool ng_p) ∧ u.cell? ⟨b_p, 1, none⟩ = some (.slice ro_p rl_p rl_p) ∧ u.cell? ⟨b_b, 0, none⟩ = some (.bool ng_b) ∧ u.cell? ⟨b_b, 1, none⟩ = some (.slice ro_b rl_b rl_b) ∧ u.cell? ⟨b_c, 0, none⟩ = some (.bool ng_c) ∧ u.cell? ⟨b_c, 1, none⟩ = some (.slice ro_c rl_c rl_c) ∧ u.cell? ⟨b_bc, 0, none⟩ = some (.bool ng_bc) ∧ u.cell? ⟨b_bc, 1, none⟩ = some (.slice ro_bc rl_bc rl_bc) := fun u hu => ⟨(HC_a.out.below hu).c0, (HC_a.out.below hu).c1, (HC_ab.out.below hu).c0, (HC_ab.out.below hu).c1, (HC_p.out.below hu).c0, (HC_p.out.below hu).c1, (HC_b.out.below hu).c0, (HC_b.out.below hu).c1, (HC_c.out.below hu).c0, (HC_c.out.below hu).c1, (HC_bc.out.below hu).c0, (HC_bc.out.below hu).c1⟩
    have K : Below w4.heap.size w4 w4.drew := (Below.refl _ _).drew
    have HC0 := CC _ K
    refine wpHl.region (C := fun u => u.cell? ⟨b_a, 0, none⟩ = some (.bool ng_a) ∧ u.cell? ⟨b_a, 1, none⟩ = some (.slice ro_a rl_a rl_a) ∧ u.cell? ⟨b_ab, 0, none⟩ = some (.bool ng_ab) ∧ u.cell? ⟨b_ab, 1, none⟩ = some (.slice ro_ab rl_ab rl_ab) ∧ u.cell? ⟨b_p, 0, none⟩ = some (.bool ng_p) ∧ u.cell? ⟨b_p, 1, none⟩ = some (.slice ro_p rl_p rl_p) ∧ u.cell? ⟨b_b, 0, none⟩ = some (.bool ng_b) ∧ u.cell? ⟨b_b, 1, none⟩ = some (.slice ro_b rl_b rl_b) ∧ u.cell? ⟨b_c, 0, none⟩ = some (.bool ng_c) ∧ u.cell? ⟨b_c, 1, none⟩ = some (.slice ro_c rl_c rl_c) ∧ u.cell? ⟨b_bc, 0, none⟩ = some (.bool ng_bc) ∧ u.cell? ⟨b_bc, 1, none⟩ = some (.slice ro_bc rl_bc rl_bc)) (D := fun _ => false) (by kernel_rfl) ?_
    refine wpHl.tk (i := 0) (d := some 39) (v := .agg #[.bool ng_a, .slice ro_a rl_a rl_a]) rfl (by as_aux_lemma => kernel_rfl) (by as_aux_lemma => kernel_rfl) (by as_aux_lemma => kernel_rfl) (by as_aux_lemma => kernel_rfl) rfl (fun _ _ _ h => h) (Or.inl ⟨by rfl, ?_⟩) HC0 ?_
    · intro u hC
      obtain ⟨z0, z1, z2, z3, z4, z5, z6, z7, z8, z9, z10, z11⟩ := hC
      go_simp
    simp only [Act.put, List.setIfInBounds_toArray, List.set_cons_zero, List.set_cons_succ]
    refine wpHl.one (i := 1) (by as_aux_lemma => kernel_rfl) rfl (fun K1 hK1 => ?_)
    rw [if_pos (by rfl)]
    go_simp
    go_at_call 10
    with_reducible refine (normal_any (h_a.below K)).mono ?_
    rintro e wn ⟨rfl, hb⟩
    replace K := below_trans K hb
    try replace t1 := t1.below hb
    try replace t2 := t2.below hb
    try replace t3 := t3.below hb
    clear HC0
    have HC0 := CC _ K
    refine hK1 _ _ ⟨fun _ => HC0, ?_⟩
    clear hK1 K1 hb
    try simp only [Act.put, List.setIfInBounds_toArray, List.set_cons_zero, List.set_cons_succ]
    refine wpHl.tk (i := 2) (d := some 41) (v := .bool false) rfl (by as_aux_lemma => kernel_rfl) (by as_aux_lemma => kernel_rfl) (by as_aux_lemma => kernel_rfl) (by as_aux_lemma => kernel_rfl) rfl (fun _ _ _ h => h) (Or.inl ⟨by rfl, ?_⟩) HC0 ?_
    · intro u hC
      go_simp
    simp only [Act.put, List.setIfInBounds_toArray, List.set_cons_zero, List.set_cons_succ]
    refine wpHl.tk (i := 3) (d := some 42) (v := .bool false) rfl (by as_aux_lemma => kernel_rfl) (by as_aux_lemma => kernel_rfl) (by as_aux_lemma => kernel_rfl) (by as_aux_lemma => kernel_rfl) rfl (fun _ _ _ h => h) (Or.inl ⟨by rfl, ?_⟩) HC0 ?_
    · intro u hC
      go_simp
    simp only [Act.put, List.setIfInBounds_toArray, List.set_cons_zero, List.set_cons_succ]
    refine wpHl.tk (i := 4) (d := some 43) (v := .agg #[.bool ng_ab, .slice ro_ab rl_ab rl_ab]) rfl (by as_aux_lemma => kernel_rfl) (by as_aux_lemma => kernel_rfl) (by as_aux_lemma => kernel_rfl) (by as_aux_lemma => kernel_rfl) rfl (fun _ _ _ h => h) (Or.inl ⟨by rfl, ?_⟩) HC0 ?_
    · intro u hC
      obtain ⟨z0, z1, z2, z3, z4, z5, z6, z7, z8, z9, z10, z11⟩ := hC
      go_simp
    simp only [Act.put, List.setIfInBounds_toArray, List.set_cons_zero, List.set_cons_succ]
    refine wpHl.one (i := 5) (by as_aux_lemma => kernel_rfl) rfl (fun K1 hK1 => ?_)
    rw [if_pos (by rfl)]
    go_simp
    go_at_call 10
    with_reducible refine (normal_any (h_ab.below K)).mono ?_
    rintro e wn ⟨rfl, hb⟩
    replace K := below_trans K hb
    try replace t1 := t1.below hb
    try replace t2 := t2.below hb
    try replace t3 := t3.below hb
    clear HC0
    have HC0 := CC _ K
    refine hK1 _ _ ⟨fun _ => HC0, ?_⟩
    clear hK1 K1 hb
    try simp only [Act.put, List.setIfInBounds_toArray, List.set_cons_zero, List.set_cons_succ]
    refine wpHl.tk (i := 6) (d := some 45) (v := .bool false) rfl (by as_aux_lemma => kernel_rfl) (by as_aux_lemma => kernel_rfl) (by as_aux_lemma => kernel_rfl) (by as_aux_lemma => kernel_rfl) rfl (fun _ _ _ h => h) (Or.inl ⟨by rfl, ?_⟩) HC0 ?_
    · intro u hC
      go_simp
    simp only [Act.put, List.setIfInBounds_toArray, List.set_cons_zero, List.set_cons_succ]
    refine wpHl.tk (i := 7) (d := some 46) (v := .bool false) rfl (by as_aux_lemma => kernel_rfl) (by as_aux_lemma => kernel_rfl) (by as_aux_lemma => kernel_rfl) (by as_aux_lemma => kernel_rfl) rfl (fun _ _ _ h => h) (Or.inl ⟨by rfl, ?_⟩) HC0 ?_
    · intro u hC
      go_simp
    simp only [Act.put, List.setIfInBounds_toArray, List.set_cons_zero, List.set_cons_succ]
    refine wpHl.tk (i := 8) (d := some 47) (v := .bool false) rfl (by as_aux_lemma => kernel_rfl) (by as_aux_lemma => kernel_rfl) (by as_aux_lemma => kernel_rfl) (by as_aux_lemma => kernel_rfl) rfl (fun _ _ _ h => h) (Or.inl ⟨by rfl, ?_⟩) HC0 ?_
    · intro u hC
      go_simp
    simp only [Act.put, List.setIfInBounds_toArray, List.set_cons_zero, List.set_cons_succ]
    refine wpHl.tk (i := 9) (d := some 48) (v := .agg #[.bool ng_p, .slice ro_p rl_p rl_p]) rfl (by as_aux_lemma => kernel_rfl) (by as_aux_lemma => kernel_rfl) (by as_aux_lemma => kernel_rfl) (by as_aux_lemma => kernel_rfl) rfl (fun _ _ _ h => h) (Or.inl ⟨by rfl, ?_⟩) HC0 ?_
    · intro u hC
      obtain ⟨z0, z1, z2, z3, z4, z5, z6, z7, z8, z9, z10, z11⟩ := hC
      go_simp
    simp only [Act.put, List.setIfInBounds_toArray, List.set_cons_zero, List.set_cons_succ]
    refine wpHl.one (i := 10) (by as_aux_lemma => kernel_rfl) rfl (fun K1 hK1 => ?_)
    rw [if_pos (by rfl)]
    go_simp
    go_at_call 10
    with_reducible refine (normal_any (h_p.below K)).mono ?_
    rintro e wn ⟨rfl, hb⟩
    replace K := below_trans K hb
    try replace t1 := t1.below hb
    try replace t2 := t2.below hb
    try replace t3 := t3.below hb
    clear HC0
    have HC0 := CC _ K
    refine hK1 _ _ ⟨fun _ => HC0, ?_⟩
    clear hK1 K1 hb
    try simp only [Act.put, List.setIfInBounds_toArray, List.set_cons_zero, List.set_cons_succ]
    refine wpHl.tk (i := 11) (d := some 50) (v := .bool false) rfl (by as_aux_lemma => kernel_rfl) (by as_aux_lemma => kernel_rfl) (by as_aux_lemma => kernel_rfl) (by as_aux_lemma => kernel_rfl) rfl (fun _ _ _ h => h) (Or.inl ⟨by rfl, ?_⟩) HC0 ?_
    · intro u hC
      go_simp
    simp only [Act.put, List.setIfInBounds_toArray, List.set_cons_zero, List.set_cons_succ]
    refine wpHl.tk (i := 12) (d := some 51) (v := .bool false) rfl (by as_aux_lemma => kernel_rfl) (by as_aux_lemma => kernel_rfl) (by as_aux_lemma => kernel_rfl) (by as_aux_lemma => kernel_rfl) rfl (fun _ _ _ h => h) (Or.inl ⟨by rfl, ?_⟩) HC0 ?_
    · intro u hC
      go_simp
    simp only [Act.put, List.setIfInBounds_toArray, List.set_cons_zero, List.set_cons_succ]
    refine wpHl.tk (i := 13) (d := some 52) (v := .bool false) rfl (by as_aux_lemma => kernel_rfl) (by as_aux_lemma => kernel_rfl) (by as_aux_lemma => kernel_rfl) (by as_aux_lemma => kernel_rfl) rfl (fun _ _ _ h => h) (Or.inl ⟨by rfl, ?_⟩) HC0 ?_
    · intro u hC
      go_simp
    simp only [Act.put, List.setIfInBounds_toArray, List.set_cons_zero, List.set_cons_succ]
    refine wpHl.tk (i := 14) (d := some 53) (v := .agg #[.bool ng_ab, .slice ro_ab rl_ab rl_ab]) rfl (by as_aux_lemma => kernel_rfl) (by as_aux_lemma => kernel_rfl) (by as_aux_lemma => kernel_rfl) (by as_aux_lemma => kernel_rfl) rfl (fun _ _ _ h => h) (Or.inl ⟨by rfl, ?_⟩) HC0 ?_
    · intro u hC
      obtain ⟨z0, z1, z2, z3, z4, z5, z6, z7, z8, z9, z10, z11⟩ := hC
      go_simp
    simp only [Act.put, List.setIfInBounds_toArray, List.set_cons_zero, List.set_cons_succ]
    refine wpHl.tk (i := 15) (d := some 54) (v := .agg #[.bool ng_b, .slice ro_b rl_b rl_b]) rfl (by as_aux_lemma => kernel_rfl) (by as_aux_lemma => kernel_rfl) (by as_aux_lemma => kernel_rfl) (by as_aux_lemma => kernel_rfl) rfl (fun _ _ _ h => h) (Or.inl ⟨by rfl, ?_⟩) HC0 ?_
    · intro u hC
      obtain ⟨z0, z1, z2, z3, z4, z5, z6, z7, z8, z9, z10, z11⟩ := hC
      go_simp
    simp only [Act.put, List.setIfInBounds_toArray, List.set_cons_zero, List.set_cons_succ]
    refine wpHl.tk (i := 16) (d := some 55) (v := .agg #[.bool ng_a, .slice ro_a rl_a rl_a]) rfl (by as_aux_lemma => kernel_rfl) (by as_aux_lemma => kernel_rfl) (by as_aux_lemma => kernel_rfl) (by as_aux_lemma => kernel_rfl) rfl (fun _ _ _ h => h) (Or.inl ⟨by rfl, ?_⟩) HC0 ?_
    · intro u hC
      obtain ⟨z0, z1, z2, z3, z4, z5, z6, z7, z8, z9, z10, z11⟩ := hC
      go_simp
    simp only [Act.put, List.setIfInBounds_toArray, List.set_cons_zero, List.set_cons_succ]
    refine wpHl.one (i := 17) (by as_aux_lemma => kernel_rfl) rfl (fun K1 hK1 => ?_)
    rw [if_pos (by rfl)]
    go_simp
    go_at_call 8
    with_reducible refine (wadd_any (h_b.arg.below K) (by omega) (h_a.arg.below K) (by omega)).mono ?_
    rintro e wn ⟨v_t1, rfl, t1, hb⟩
    replace K := below_trans K hb
    try replace t1 := t1.below hb
    try replace t2 := t2.below hb
    try replace t3 := t3.below hb
    obtain ⟨ng_t1, ro_t1, rl_t1, rfl⟩ := t1.told
    clear HC0
    have HC0 := CC _ K
    refine hK1 _ _ ⟨fun _ => HC0, ?_⟩
    clear hK1 K1 hb
    try simp only [Act.put, List.setIfInBounds_toArray, List.set_cons_zero, List.set_cons_succ]
    refine wpHl.one (i := 18) (by as_aux_lemma => kernel_rfl) rfl (fun K1 hK1 => ?_)
    rw [if_pos (by rfl)]
    go_simp
    go_at_call 11
    with_reducible refine (wsame_any (h_ab.below K) t1 (Int.add_comm _ _)).mono ?_
    rintro e wn ⟨rfl, hb⟩
    replace K := below_trans K hb
    try replace t1 := t1.below hb
    try replace t2 := t2.below hb
    try replace t3 := t3.below hb
    clear HC0
    have HC0 := CC _ K
    refine hK1 _ _ ⟨fun _ => HC0, ?_⟩
    clear hK1 K1 hb
    try simp only [Act.put, List.setIfInBounds_toArray, List.set_cons_zero, List.set_cons_succ]
    refine wpHl.tk (i := 19) (d := some 58) (v := .bool false) rfl (by as_aux_lemma => kernel_rfl) (by as_aux_lemma => kernel_rfl) (by as_aux_lemma => kernel_rfl) (by as_aux_lemma => kernel_rfl) rfl (fun _ _ _ h => h) (Or.inl ⟨by rfl, ?_⟩) HC0 ?_
    · intro u hC
      go_simp
    simp only [Act.put, List.setIfInBounds_toArray, List.set_cons_zero, List.set_cons_succ]
    refine wpHl.tk (i := 20) (d := some 59) (v := .bool false) rfl (by as_aux_lemma => kernel_rfl) (by as_aux_lemma => kernel_rfl) (by as_aux_lemma => kernel_rfl) (by as_aux_lemma => kernel_rfl) rfl (fun _ _ _ h => h) (Or.inl ⟨by rfl, ?_⟩) HC0 ?_
    · intro u hC
      go_simp
    simp only [Act.put, List.setIfInBounds_toArray, List.set_cons_zero, List.set_cons_succ]
    refine wpHl.tk (i := 21) (d := some 60) (v := .bool false) rfl (by as_aux_lemma => kernel_rfl) (by as_aux_lemma => kernel_rfl) (by as_aux_lemma => kernel_rfl) (by as_aux_lemma => kernel_rfl) rfl (fun _ _ _ h => h) (Or.inl ⟨by rfl, ?_⟩) HC0 ?_
    · intro u hC
      go_simp
    simp only [Act.put, List.setIfInBounds_toArray, List.set_cons_zero, List.set_cons_succ]
    refine wpHl.tk (i := 22) (d := some 61) (v := .agg #[.bool ng_ab, .slice ro_ab rl_ab rl_ab]) rfl (by as_aux_lemma => kernel_rfl) (by as_aux_lemma => kernel_rfl) (by as_aux_lemma => kernel_rfl) (by as_aux_lemma => kernel_rfl) rfl (fun _ _ _ h => h) (Or.inl ⟨by rfl, ?_⟩) HC0 ?_
    · intro u hC
      obtain ⟨z0, z1, z2, z3, z4, z5, z6, z7, z8, z9, z10, z11⟩ := hC
      go_simp
    simp only [Act.put, List.setIfInBounds_toArray, List.set_cons_zero, List.set_cons_succ]
    refine wpHl.tk (i := 23) (d := some 62) (v := .agg #[.bool ng_c, .slice ro_c rl_c rl_c]) rfl (by as_aux_lemma => kernel_rfl) (by as_aux_lemma => kernel_rfl) (by as_aux_lemma => kernel_rfl) (by as_aux_lemma => kernel_rfl) rfl (fun _ _ _ h => h) (Or.inl ⟨by rfl, ?_⟩) HC0 ?_
    · intro u hC
      obtain ⟨z0, z1, z2, z3, z4, z5, z6, z7, z8, z9, z10, z11⟩ := hC
      go_simp
    simp only [Act.put, List.setIfInBounds_toArray, List.set_cons_zero, List.set_cons_succ]
    refine wpHl.tk (i := 25) (d := some 64) (v := .agg #[.bool ng_a, .slice ro_a rl_a rl_a]) rfl (by as_aux_lemma => kernel_rfl) (by as_aux_lemma => kernel_rfl) (by as_aux_lemma => kernel_rfl) (by as_aux_lemma => kernel_rfl) rfl (fun _ _ _ h => h) (Or.inl ⟨by rfl, ?_⟩) HC0 ?_
    · intro u hC
      obtain ⟨z0, z1, z2, z3, z4, z5, z6, z7, z8, z9, z10, z11⟩ := hC
      go_simp
    simp only [Act.put, List.setIfInBounds_toArray, List.set_cons_zero, List.set_cons_succ]
    refine wpHl.tk (i := 26) (d := some 65) (v := .agg #[.bool ng_bc, .slice ro_bc rl_bc rl_bc]) rfl (by as_aux_lemma => kernel_rfl) (by as_aux_lemma => kernel_rfl) (by as_aux_lemma => kernel_rfl) (by as_aux_lemma => kernel_rfl) rfl (fun _ _ _ h => h) (Or.inl ⟨by rfl, ?_⟩) HC0 ?_
    · intro u hC
      obtain ⟨z0, z1, z2, z3, z4, z5, z6, z7, z8, z9, z10, z11⟩ := hC
      go_simp
    simp only [Act.put, List.setIfInBounds_toArray, List.set_cons_zero, List.set_cons_succ]
    refine wpHl.one (i := 24) (by as_aux_lemma => kernel_rfl) rfl (fun K1 hK1 => ?_)
    rw [if_pos (by rfl)]
    go_simp
    go_at_call 8
    with_reducible refine (wadd_any (h_ab.arg.below K) (by omega) (h_c.arg.below K) (by omega)).mono ?_
    rintro e wn ⟨v_t2, rfl, t2, hb⟩
    replace K := below_trans K hb
    try replace t1 := t1.below hb
    try replace t2 := t2.below hb
    try replace t3 := t3.below hb
    obtain ⟨ng_t2, ro_t2, rl_t2, rfl⟩ := t2.told
    clear HC0
    have HC0 := CC _ K
    refine hK1 _ _ ⟨fun _ => HC0, ?_⟩
    clear hK1 K1 hb
    try simp only [Act.put, List.setIfInBounds_toArray, List.set_cons_zero, List.set_cons_succ]
    refine wpHl.one (i := 27) (by as_aux_lemma => kernel_rfl) rfl (fun K1 hK1 => ?_)
    rw [if_pos (by rfl)]
    go_simp
    go_at_call 8
    with_reducible refine (wadd_any (h_a.arg.below K) (by omega) (h_bc.arg.below K) (by omega)).mono ?_
    rintro e wn ⟨v_t3, rfl, t3, hb⟩
    replace K := below_trans K hb
    try replace t1 := t1.below hb
    try replace t2 := t2.below hb
    try replace t3 := t3.below hb
    obtain ⟨ng_t3, ro_t3, rl_t3, rfl⟩ := t3.told
    clear HC0
    have HC0 := CC _ K
    refine hK1 _ _ ⟨fun _ => HC0, ?_⟩
    clear hK1 K1 hb
    try simp only [Act.put, List.setIfInBounds_toArray, List.set_cons_zero, List.set_cons_succ]
    refine wpHl.one (i := 28) (by as_aux_lemma => kernel_rfl) rfl (fun K1 hK1 => ?_)
    rw [if_pos (by rfl)]
    go_simp
    go_at_call 11
    with_reducible refine (wsame_any t2 t3 (Int.add_assoc _ _ _)).mono ?_
    rintro e wn ⟨rfl, hb⟩
    replace K := below_trans K hb
    try replace t1 := t1.below hb
    try replace t2 := t2.below hb
    try replace t3 := t3.below hb
    clear HC0
    have HC0 := CC _ K
    refine hK1 _ _ ⟨fun _ => HC0, ?_⟩
    clear hK1 K1 hb
    try simp only [Act.put, List.setIfInBounds_toArray, List.set_cons_zero, List.set_cons_succ]
    refine wpHl.tk (i := 29) (d := some 68) (v := .bool false) rfl (by as_aux_lemma => kernel_rfl) (by as_aux_lemma => kernel_rfl) (by as_aux_lemma => kernel_rfl) (by as_aux_lemma => kernel_rfl) rfl (fun _ _ _ h => h) (Or.inl ⟨by rfl, ?_⟩) HC0 ?_
    · intro u hC
      go_simp
    simp only [Act.put, List.setIfInBounds_toArray, List.set_cons_zero, List.set_cons_succ]
    refine wpHl.tk (i := 30) (d := some 69) (v := .bool false) rfl (by as_aux_lemma => kernel_rfl) (by as_aux_lemma => kernel_rfl) (by as_aux_lemma => kernel_rfl) (by as_aux_lemma => kernel_rfl) rfl (fun _ _ _ h => h) (Or.inl ⟨by rfl, ?_⟩) HC0 ?_
    · intro u hC
      go_simp
    simp only [Act.put, List.setIfInBounds_toArray, List.set_cons_zero, List.set_cons_succ]
    refine wpHl.done (by as_aux_lemma => kernel_rfl) ?_ _
    clear CC HC0
    have K9 := hide K
    clear K t1 t2 t3
    go_wp2_with fail
    go_meet
    case rel => exact ⟨rfl, K9.out⟩
  case rest =>
  obtain ⟨rfl, K⟩ := hcut
  rename World => w5
  replace KB := below_trans KB K
  replace h_a := h_a.below K
  replace HC_a := hide (HC_a.out.below K)
  replace h_b := h_b.below K
  replace HC_b := hide (HC_b.out.below K)
  replace h_c := h_c.below K
  replace HC_c := hide (HC_c.out.below K)
  replace h_ab := h_ab.below K
  replace HC_ab := hide (HC_ab.out.below K)
  replace h_bc := h_bc.below K
  replace HC_bc := hide (HC_bc.out.below K)
  replace h_p := h_p.below K
  replace HC_p := hide (HC_p.out.below K)
  replace h_q := h_q.below K
  replace HC_q := hide (HC_q.out.below K)
  clear K
  go_upto_region 8 with fail
  go_cut [97] from 70 (fun s97 w' => s97 = .bool false ∧ Below w5.heap.size w5 w')
  case first =>
    have CC : ∀ u : World, Below w5.heap.size w5 u → u.cell? ⟨b_p, 0, none⟩ = some (.bool ng_p) ∧ u.cell? ⟨b_p, 1, none⟩ = some (.slice ro_p rl_p rl_p) ∧ u.cell? ⟨b_b, 0, none⟩ = some (.bool ng_b) ∧ u.cell? ⟨b_b, 1, none⟩ = some (.slice ro_b rl_b rl_b) ∧ u.cell? ⟨b_a, 0, none⟩ = some (.bool ng_a) ∧ u.cell? ⟨b_a, 1, none⟩ = some (.slice ro_a rl_a rl_a) ∧ u.cell? ⟨b_c, 0, none⟩ = some (.bool ng_c) ∧ u.cell? ⟨b_c, 1, none⟩ = some (.slice ro_c rl_c rl_c) ∧ u.cell? ⟨b_q, 0, none⟩ = some (.bool ng_q) ∧ u.cell? ⟨b_q, 1, none⟩ = some (.slice ro_q rl_q rl_q) ∧ u.cell? ⟨b_bc, 0, none⟩ = some (.bool ng_bc) ∧ u.cell? ⟨b_bc, 1, none⟩ = some (.slice ro_bc rl_bc rl_bc) := fun u hu => ⟨(HC_p.out.below hu).c0, (HC_p.out.below hu).c1, (HC_b.out.below hu).c0, (HC_b.out.below hu).c1, (HC_a.out.below hu).c0, (HC_a.out.below hu).c1, (HC_c.out.below hu).c0, (HC_c.out.below hu).c1, (HC_q.out.below hu).c0, (HC_q.out.below hu).c1, (HC_bc.out.below hu).c0, (HC_bc.out.below hu).c1⟩
    have K : Below w5.heap.size w5 w5.drew := (Below.refl _ _).drew
    have HC0 := CC _ K
    refine wpHl.region (C := fun u => u.cell? ⟨b_p, 0, none⟩ = some (.bool ng_p) ∧ u.cell? ⟨b_p, 1, none⟩ = some (.slice ro_p rl_p rl_p) ∧ u.cell? ⟨b_b, 0, none⟩ = some (.bool ng_b) ∧ u.cell? ⟨b_b, 1, none⟩ = some (.slice ro_b rl_b rl_b) ∧ u.cell? ⟨b_a, 0, none⟩ = some (.bool ng_a) ∧ u.cell? ⟨b_a, 1, none⟩ = some (.slice ro_a rl_a rl_a) ∧ u.cell? ⟨b_c, 0, none⟩ = some (.bool ng_c) ∧ u.cell? ⟨b_c, 1, none⟩ = some (.slice ro_c rl_c rl_c) ∧ u.cell? ⟨b_q, 0, none⟩ = some (.bool ng_q) ∧ u.cell? ⟨b_q, 1, none⟩ = some (.slice ro_q rl_q rl_q) ∧ u.cell? ⟨b_bc, 0, none⟩ = some (.bool ng_bc) ∧ u.cell? ⟨b_bc, 1, none⟩ = some (.slice ro_bc rl_bc rl_bc)) (D := fun _ => false) (by kernel_rfl) ?_
    refine wpHl.tk (i := 0) (d := some 70) (v := .agg #[.bool ng_p, .slice ro_p rl_p rl_p]) rfl (by as_aux_lemma => kernel_rfl) (by as_aux_lemma => kernel_rfl) (by as_aux_lemma => kernel_rfl) (by as_aux_lemma => kernel_rfl) rfl (fun _ _ _ h => h) (Or.inl ⟨by rfl, ?_⟩) HC0 ?_
    · intro u hC
      obtain ⟨z0, z1, z2, z3, z4, z5, z6, z7, z8, z9, z10, z11⟩ := hC
      go_simp
    simp only [Act.put, List.setIfInBounds_toArray, List.set_cons_zero, List.set_cons_succ]
    refine wpHl.tk (i := 1) (d := some 71) (v := .agg #[.bool ng_b, .slice ro_b rl_b rl_b]) rfl (by as_aux_lemma => kernel_rfl) (by as_aux_lemma => kernel_rfl) (by as_aux_lemma => kernel_rfl) (by as_aux_lemma => kernel_rfl) rfl (fun _ _ _ h => h) (Or.inl ⟨by rfl, ?_⟩) HC0 ?_
    · intro u hC
      obtain ⟨z0, z1, z2, z3, z4, z5, z6, z7, z8, z9, z10, z11⟩ := hC
      go_simp
    simp only [Act.put, List.setIfInBounds_toArray, List.set_cons_zero, List.set_cons_succ]
    refine wpHl.tk (i := 2) (d := some 72) (v := .agg #[.bool ng_a, .slice ro_a rl_a rl_a]) rfl (by as_aux_lemma => kernel_rfl) (by as_aux_lemma => kernel_rfl) (by as_aux_lemma => kernel_rfl) (by as_aux_lemma => kernel_rfl) rfl (fun _ _ _ h => h) (Or.inl ⟨by rfl, ?_⟩) HC0 ?_
    · intro u hC
      obtain ⟨z0, z1, z2, z3, z4, z5, z6, z7, z8, z9, z10, z11⟩ := hC
      go_simp
    simp only [Act.put, List.setIfInBounds_toArray, List.set_cons_zero, List.set_cons_succ]
    refine wpHl.one (i := 3) (by as_aux_lemma => kernel_rfl) rfl (fun K1 hK1 => ?_)
    rw [if_pos (by rfl)]
    go_simp
    go_at_call 9
    with_reducible refine (wmul_any (h_b.arg.below K) (by omega) (h_a.arg.below K) (by omega)).mono ?_
    rintro e wn ⟨v_t1, rfl, t1, hb⟩
    replace K := below_trans K hb
    try replace t1 := t1.below hb
    try replace t2 := t2.below hb
    try replace t3 := t3.below hb
    try replace t4 := t4.below hb
    try replace t5 := t5.below hb
    try replace t6 := t6.below hb
    obtain ⟨ng_t1, ro_t1, rl_t1, rfl⟩ := t1.told
    clear HC0
    have HC0 := CC _ K
    refine hK1 _ _ ⟨fun _ => HC0, ?_⟩
    clear hK1 K1 hb
    try simp only [Act.put, List.setIfInBounds_toArray, List.set_cons_zero, List.set_cons_succ]
    refine wpHl.one (i := 4) (by as_aux_lemma => kernel_rfl) rfl (fun K1 hK1 => ?_)
    rw [if_pos (by rfl)]
    go_simp
    go_at_call 11
    with_reducible refine (wsame_any (h_p.below K) t1 (Int.mul_comm _ _)).mono ?_
    rintro e wn ⟨rfl, hb⟩
    replace K := below_trans K hb
    try replace t1 := t1.below hb
    try replace t2 := t2.below hb
    try replace t3 := t3.below hb
    try replace t4 := t4.below hb
    try replace t5 := t5.below hb
    try replace t6 := t6.below hb
    clear HC0
    have HC0 := CC _ K
    refine hK1 _ _ ⟨fun _ => HC0, ?_⟩
    clear hK1 K1 hb
    try simp only [Act.put, List.setIfInBounds_toArray, List.set_cons_zero, List.set_cons_succ]
    refine wpHl.tk (i := 5) (d := some 75) (v := .bool false) rfl (by as_aux_lemma => kernel_rfl) (by as_aux_lemma => kernel_rfl) (by as_aux_lemma => kernel_rfl) (by as_aux_lemma => kernel_rfl) rfl (fun _ _ _ h => h) (Or.inl ⟨by rfl, ?_⟩) HC0 ?_
    · intro u hC
      go_simp
    simp only [Act.put, List.setIfInBounds_toArray, List.set_cons_zero, List.set_cons_succ]
    refine wpHl.tk (i := 6) (d := some 76) (v := .bool false) rfl (by as_aux_lemma => kernel_rfl) (by as_aux_lemma => kernel_rfl) (by as_aux_lemma => kernel_rfl) (by as_aux_lemma => kernel_rfl) rfl (fun _ _ _ h => h) (Or.inl ⟨by rfl, ?_⟩) HC0 ?_
    · intro u hC
      go_simp
    simp only [Act.put, List.setIfInBounds_toArray, List.set_cons_zero, List.set_cons_succ]
    refine wpHl.tk (i := 7) (d := some 77) (v := .agg #[.bool ng_p, .slice ro_p rl_p rl_p]) rfl (by as_aux_lemma => kernel_rfl) (by as_aux_lemma => kernel_rfl) (by as_aux_lemma => kernel_rfl) (by as_aux_lemma => kernel_rfl) rfl (fun _ _ _ h => h) (Or.inl ⟨by rfl, ?_⟩) HC0 ?_
    · intro u hC
      obtain ⟨z0, z1, z2, z3, z4, z5, z6, z7, z8, z9, z10, z11⟩ := hC
      go_simp
    simp only [Act.put, List.setIfInBounds_toArray, List.set_cons_zero, List.set_cons_succ]
    refine wpHl.tk (i := 8) (d := some 78) (v := .agg #[.bool ng_c, .slice ro_c rl_c rl_c]) rfl (by as_aux_lemma => kernel_rfl) (by as_aux_lemma => kernel_rfl) (by as_aux_lemma => kernel_rfl) (by as_aux_lemma => kernel_rfl) rfl (fun _ _ _ h => h) (Or.inl ⟨by rfl, ?_⟩) HC0 ?_
    · intro u hC
      obtain ⟨z0, z1, z2, z3, z4, z5, z6, z7, z8, z9, z10, z11⟩ := hC
      go_simp
    simp only [Act.put, List.setIfInBounds_toArray, List.set_cons_zero, List.set_cons_succ]
    refine wpHl.tk (i := 10) (d := some 80) (v := .agg #[.bool ng_a, .slice ro_a rl_a rl_a]) rfl (by as_aux_lemma => kernel_rfl) (by as_aux_lemma => kernel_rfl) (by as_aux_lemma => kernel_rfl) (by as_aux_lemma => kernel_rfl) rfl (fun _ _ _ h => h) (Or.inl ⟨by rfl, ?_⟩) HC0 ?_
    · intro u hC
      obtain ⟨z0, z1, z2, z3, z4, z5, z6, z7, z8, z9, z10, z11⟩ := hC
      go_simp
    simp only [Act.put, List.setIfInBounds_toArray, List.set_cons_zero, List.set_cons_succ]
    refine wpHl.tk (i := 11) (d := some 81) (v := .agg #[.bool ng_q, .slice ro_q rl_q rl_q]) rfl (by as_aux_lemma => kernel_rfl) (by as_aux_lemma => kernel_rfl) (by as_aux_lemma => kernel_rfl) (by as_aux_lemma => kernel_rfl) rfl (fun _ _ _ h => h) (Or.inl ⟨by rfl, ?_⟩) HC0 ?_
    · intro u hC
      obtain ⟨z0, z1, z2, z3, z4, z5, z6, z7, z8, z9, z10, z11⟩ := hC
      go_simp
    simp only [Act.put, List.setIfInBounds_toArray, List.set_cons_zero, List.set_cons_succ]
    refine wpHl.one (i := 9) (by as_aux_lemma => kernel_rfl) rfl (fun K1 hK1 => ?_)
    rw [if_pos (by rfl)]
    go_simp
    go_at_call 9
    with_reducible refine (wmul_any (h_p.arg.below K) (by omega) (h_c.arg.below K) (by omega)).mono ?_
    rintro e wn ⟨v_t2, rfl, t2, hb⟩
    replace K := below_trans K hb
    try replace t1 := t1.below hb
    try replace t2 := t2.below hb
    try replace t3 := t3.below hb
    try replace t4 := t4.below hb
    try replace t5 := t5.below hb
    try replace t6 := t6.below hb
    obtain ⟨ng_t2, ro_t2, rl_t2, rfl⟩ := t2.told
    clear HC0
    have HC0 := CC _ K
    refine hK1 _ _ ⟨fun _ => HC0, ?_⟩
    clear hK1 K1 hb
    try simp only [Act.put, List.setIfInBounds_toArray, List.set_cons_zero, List.set_cons_succ]
    refine wpHl.one (i := 12) (by as_aux_lemma => kernel_rfl) rfl (fun K1 hK1 => ?_)
    rw [if_pos (by rfl)]
    go_simp
    go_at_call 9
    with_reducible refine (wmul_any (h_a.arg.below K) (by omega) (h_q.arg.below K) (by omega)).mono ?_
    rintro e wn ⟨v_t3, rfl, t3, hb⟩
    replace K := below_trans K hb
    try replace t1 := t1.below hb
    try replace t2 := t2.below hb
    try replace t3 := t3.below hb
    try replace t4 := t4.below hb
    try replace t5 := t5.below hb
    try replace t6 := t6.below hb
    obtain ⟨ng_t3, ro_t3, rl_t3, rfl⟩ := t3.told
    clear HC0
    have HC0 := CC _ K
    refine hK1 _ _ ⟨fun _ => HC0, ?_⟩
    clear hK1 K1 hb
    try simp only [Act.put, List.setIfInBounds_toArray, List.set_cons_zero, List.set_cons_succ]
    refine wpHl.one (i := 13) (by as_aux_lemma => kernel_rfl) rfl (fun K1 hK1 => ?_)
    rw [if_pos (by rfl)]
    go_simp
    go_at_call 11
    with_reducible refine (wsame_any t2 t3 (Int.mul_assoc _ _ _)).mono ?_
    rintro e wn ⟨rfl, hb⟩
    replace K := below_trans K hb
    try replace t1 := t1.below hb
    try replace t2 := t2.below hb
    try replace t3 := t3.below hb
    try replace t4 := t4.below hb
    try replace t5 := t5.below hb
    try replace t6 := t6.below hb
    clear HC0
    have HC0 := CC _ K
    refine hK1 _ _ ⟨fun _ => HC0, ?_⟩
    clear hK1 K1 hb
    try simp only [Act.put, List.setIfInBounds_toArray, List.set_cons_zero, List.set_cons_succ]
    refine wpHl.tk (i := 14) (d := some 84) (v := .bool false) rfl (by as_aux_lemma => kernel_rfl) (by as_aux_lemma => kernel_rfl) (by as_aux_lemma => kernel_rfl) (by as_aux_lemma => kernel_rfl) rfl (fun _ _ _ h => h) (Or.inl ⟨by rfl, ?_⟩) HC0 ?_
    · intro u hC
      go_simp
    simp only [Act.put, List.setIfInBounds_toArray, List.set_cons_zero, List.set_cons_succ]
    refine wpHl.tk (i := 15) (d := some 85) (v := .bool false) rfl (by as_aux_lemma => kernel_rfl) (by as_aux_lemma => kernel_rfl) (by as_aux_lemma => kernel_rfl) (by as_aux_lemma => kernel_rfl) rfl (fun _ _ _ h => h) (Or.inl ⟨by rfl, ?_⟩) HC0 ?_
    · intro u hC
      go_simp
    simp only [Act.put, List.setIfInBounds_toArray, List.set_cons_zero, List.set_cons_succ]
    refine wpHl.tk (i := 16) (d := some 86) (v := .bool false) rfl (by as_aux_lemma => kernel_rfl) (by as_aux_lemma => kernel_rfl) (by as_aux_lemma => kernel_rfl) (by as_aux_lemma => kernel_rfl) rfl (fun _ _ _ h => h) (Or.inl ⟨by rfl, ?_⟩) HC0 ?_
    · intro u hC
      go_simp
    simp only [Act.put, List.setIfInBounds_toArray, List.set_cons_zero, List.set_cons_succ]
    refine wpHl.tk (i := 17) (d := some 87) (v := .agg #[.bool ng_a, .slice ro_a rl_a rl_a]) rfl (by as_aux_lemma => kernel_rfl) (by as_aux_lemma => kernel_rfl) (by as_aux_lemma => kernel_rfl) (by as_aux_lemma => kernel_rfl) rfl (fun _ _ _ h => h) (Or.inl ⟨by rfl, ?_⟩) HC0 ?_
    · intro u hC
      obtain ⟨z0, z1, z2, z3, z4, z5, z6, z7, z8, z9, z10, z11⟩ := hC
      go_simp
    simp only [Act.put, List.setIfInBounds_toArray, List.set_cons_zero, List.set_cons_succ]
    refine wpHl.tk (i := 18) (d := some 88) (v := .agg #[.bool ng_bc, .slice ro_bc rl_bc rl_bc]) rfl (by as_aux_lemma => kernel_rfl) (by as_aux_lemma => kernel_rfl) (by as_aux_lemma => kernel_rfl) (by as_aux_lemma => kernel_rfl) rfl (fun _ _ _ h => h) (Or.inl ⟨by rfl, ?_⟩) HC0 ?_
    · intro u hC
      obtain ⟨z0, z1, z2, z3, z4, z5, z6, z7, z8, z9, z10, z11⟩ := hC
      go_simp
    simp only [Act.put, List.setIfInBounds_toArray, List.set_cons_zero, List.set_cons_succ]
    refine wpHl.tk (i := 20) (d := some 90) (v := .agg #[.bool ng_p, .slice ro_p rl_p rl_p]) rfl (by as_aux_lemma => kernel_rfl) (by as_aux_lemma => kernel_rfl) (by as_aux_lemma => kernel_rfl) (by as_aux_lemma => kernel_rfl) rfl (fun _ _ _ h => h) (Or.inl ⟨by rfl, ?_⟩) HC0 ?_
    · intro u hC
      obtain ⟨z0, z1, z2, z3, z4, z5, z6, z7, z8, z9, z10, z11⟩ := hC
      go_simp
    simp only [Act.put, List.setIfInBounds_toArray, List.set_cons_zero, List.set_cons_succ]
    refine wpHl.tk (i := 21) (d := some 91) (v := .agg #[.bool ng_a, .slice ro_a rl_a rl_a]) rfl (by as_aux_lemma => kernel_rfl) (by as_aux_lemma => kernel_rfl) (by as_aux_lemma => kernel_rfl) (by as_aux_lemma => kernel_rfl) rfl (fun _ _ _ h => h) (Or.inl ⟨by rfl, ?_⟩) HC0 ?_
    · intro u hC
      obtain ⟨z0, z1, z2, z3, z4, z5, z6, z7, z8, z9, z10, z11⟩ := hC
      go_simp
    simp only [Act.put, List.setIfInBounds_toArray, List.set_cons_zero, List.set_cons_succ]
    refine wpHl.tk (i := 22) (d := some 92) (v := .agg #[.bool ng_c, .slice ro_c rl_c rl_c]) rfl (by as_aux_lemma => kernel_rfl) (by as_aux_lemma => kernel_rfl) (by as_aux_lemma => kernel_rfl) (by as_aux_lemma => kernel_rfl) rfl (fun _ _ _ h => h) (Or.inl ⟨by rfl, ?_⟩) HC0 ?_
    · intro u hC
      obtain ⟨z0, z1, z2, z3, z4, z5, z6, z7, z8, z9, z10, z11⟩ := hC
      go_simp
    simp only [Act.put, List.setIfInBounds_toArray, List.set_cons_zero, List.set_cons_succ]
    refine wpHl.one (i := 19) (by as_aux_lemma => kernel_rfl) rfl (fun K1 hK1 => ?_)
    rw [if_pos (by rfl)]
    go_simp
    go_at_call 9
    with_reducible refine (wmul_any (h_a.arg.below K) (by omega) (h_bc.arg.below K) (by omega)).mono ?_
    rintro e wn ⟨v_t4, rfl, t4, hb⟩
    replace K := below_trans K hb
    try replace t1 := t1.below hb
    try replace t2 := t2.below hb
    try replace t3 := t3.below hb
    try replace t4 := t4.below hb
    try replace t5 := t5.below hb
    try replace t6 := t6.below hb
    obtain ⟨ng_t4, ro_t4, rl_t4, rfl⟩ := t4.told
    clear HC0
    have HC0 := CC _ K
    refine hK1 _ _ ⟨fun _ => HC0, ?_⟩
    clear hK1 K1 hb
    try simp only [Act.put, List.setIfInBounds_toArray, List.set_cons_zero, List.set_cons_succ]
    refine wpHl.one (i := 23) (by as_aux_lemma => kernel_rfl) rfl (fun K1 hK1 => ?_)
    rw [if_pos (by rfl)]
    go_simp
    go_at_call 9
    with_reducible refine (wmul_any (h_a.arg.below K) (by omega) (h_c.arg.below K) (by omega)).mono ?_
    rintro e wn ⟨v_t5, rfl, t5, hb⟩
    replace K := below_trans K hb
    try replace t1 := t1.below hb
    try replace t2 := t2.below hb
    try replace t3 := t3.below hb
    try replace t4 := t4.below hb
    try replace t5 := t5.below hb
    try replace t6 := t6.below hb
    obtain ⟨ng_t5, ro_t5, rl_t5, rfl⟩ := t5.told
    clear HC0
    have HC0 := CC _ K
    refine hK1 _ _ ⟨fun _ => HC0, ?_⟩
    clear hK1 K1 hb
    try simp only [Act.put, List.setIfInBounds_toArray, List.set_cons_zero, List.set_cons_succ]
    refine wpHl.one (i := 24) (by as_aux_lemma => kernel_rfl) rfl (fun K1 hK1 => ?_)
    rw [if_pos (by rfl)]
    go_simp
    go_at_call 8
    with_reducible refine (wadd_any (h_p.arg.below K) (by omega) t5.arg (by omega)).mono ?_
    rintro e wn ⟨v_t6, rfl, t6, hb⟩
    replace K := below_trans K hb
    try replace t1 := t1.below hb
    try replace t2 := t2.below hb
    try replace t3 := t3.below hb
    try replace t4 := t4.below hb
    try replace t5 := t5.below hb
    try replace t6 := t6.below hb
    obtain ⟨ng_t6, ro_t6, rl_t6, rfl⟩ := t6.told
    clear HC0
    have HC0 := CC _ K
    refine hK1 _ _ ⟨fun _ => HC0, ?_⟩
    clear hK1 K1 hb
    try simp only [Act.put, List.setIfInBounds_toArray, List.set_cons_zero, List.set_cons_succ]
    refine wpHl.one (i := 25) (by as_aux_lemma => kernel_rfl) rfl (fun K1 hK1 => ?_)
    rw [if_pos (by rfl)]
    go_simp
    go_at_call 11
    with_reducible refine (wsame_any t4 t6 (Int.mul_add _ _ _)).mono ?_
    rintro e wn ⟨rfl, hb⟩
    replace K := below_trans K hb
    try replace t1 := t1.below hb
    try replace t2 := t2.below hb
    try replace t3 := t3.below hb
    try replace t4 := t4.below hb
    try replace t5 := t5.below hb
    try replace t6 := t6.below hb
    clear HC0
    have HC0 := CC _ K
    refine hK1 _ _ ⟨fun _ => HC0, ?_⟩
    clear hK1 K1 hb
    try simp only [Act.put, List.setIfInBounds_toArray, List.set_cons_zero, List.set_cons_succ]
    refine wpHl.tk (i := 26) (d := some 96) (v := .bool false) rfl (by as_aux_lemma => kernel_rfl) (by as_aux_lemma => kernel_rfl) (by as_aux_lemma => kernel_rfl) (by as_aux_lemma => kernel_rfl) rfl (fun _ _ _ h => h) (Or.inl ⟨by rfl, ?_⟩) HC0 ?_
    · intro u hC
      go_simp
    simp only [Act.put, List.setIfInBounds_toArray, List.set_cons_zero, List.set_cons_succ]
    refine wpHl.tk (i := 27) (d := some 97) (v := .bool false) rfl (by as_aux_lemma => kernel_rfl) (by as_aux_lemma => kernel_rfl) (by as_aux_lemma => kernel_rfl) (by as_aux_lemma => kernel_rfl) rfl (fun _ _ _ h => h) (Or.inl ⟨by rfl, ?_⟩) HC0 ?_
    · intro u hC
      go_simp
    simp only [Act.put, List.setIfInBounds_toArray, List.set_cons_zero, List.set_cons_succ]
    refine wpHl.done (by as_aux_lemma => kernel_rfl) ?_ _
    clear CC HC0
    have K9 := hide K
    clear K t1 t2 t3 t4 t5 t6
    go_wp2_with fail
    go_meet
    case rel => exact ⟨rfl, K9.out⟩
  case rest =>
  obtain ⟨rfl, K⟩ := hcut
  rename World => w6
  replace KB := below_trans KB K
  replace h_a := h_a.below K
  replace HC_a := hide (HC_a.out.below K)
  replace h_b := h_b.below K
  replace HC_b := hide (HC_b.out.below K)
  replace h_c := h_c.below K
  replace HC_c := hide (HC_c.out.below K)
  replace h_ab := h_ab.below K
  replace HC_ab := hide (HC_ab.out.below K)
  replace h_bc := h_bc.below K
  replace HC_bc := hide (HC_bc.out.below K)
  replace h_p := h_p.below K
  replace HC_p := hide (HC_p.out.below K)
  replace h_q := h_q.below K
  replace HC_q := hide (HC_q.out.below K)
  clear K
  go_upto_region 10 with fail
  go_cut [122] from 98 (fun s122 w' => s122 = .bool false ∧ Below w6.heap.size w6 w')
  case first =>
    have CC : ∀ u : World, Below w6.heap.size w6 u → u.cell? ⟨b_ab, 0, none⟩ = some (.bool ng_ab) ∧ u.cell? ⟨b_ab, 1, none⟩ = some (.slice ro_ab rl_ab rl_ab) ∧ u.cell? ⟨b_b, 0, none⟩ = some (.bool ng_b) ∧ u.cell? ⟨b_b, 1, none⟩ = some (.slice ro_b rl_b rl_b) ∧ u.cell? ⟨b_a, 0, none⟩ = some (.bool ng_a) ∧ u.cell? ⟨b_a, 1, none⟩ = some (.slice ro_a rl_a rl_a) := fun u hu => ⟨(HC_ab.out.below hu).c0, (HC_ab.out.below hu).c1, (HC_b.out.below hu).c0, (HC_b.out.below hu).c1, (HC_a.out.below hu).c0, (HC_a.out.below hu).c1⟩
    have K : Below w6.heap.size w6 w6.drew := (Below.refl _ _).drew
    have HC0 := CC _ K
    refine wpHl.region (C := fun u => u.cell? ⟨b_ab, 0, none⟩ = some (.bool ng_ab) ∧ u.cell? ⟨b_ab, 1, none⟩ = some (.slice ro_ab rl_ab rl_ab) ∧ u.cell? ⟨b_b, 0, none⟩ = some (.bool ng_b) ∧ u.cell? ⟨b_b, 1, none⟩ = some (.slice ro_b rl_b rl_b) ∧ u.cell? ⟨b_a, 0, none⟩ = some (.bool ng_a) ∧ u.cell? ⟨b_a, 1, none⟩ = some (.slice ro_a rl_a rl_a)) (D := fun _ => false) (by kernel_rfl) ?_
    refine wpHl.tk (i := 0) (d := some 98) (v := .agg #[.bool ng_ab, .slice ro_ab rl_ab rl_ab]) rfl (by as_aux_lemma => kernel_rfl) (by as_aux_lemma => kernel_rfl) (by as_aux_lemma => kernel_rfl) (by as_aux_lemma => kernel_rfl) rfl (fun _ _ _ h => h) (Or.inl ⟨by rfl, ?_⟩) HC0 ?_
    · intro u hC
      obtain ⟨z0, z1, z2, z3, z4, z5⟩ := hC
      go_simp
    simp only [Act.put, List.setIfInBounds_toArray, List.set_cons_zero, List.set_cons_succ]
    refine wpHl.tk (i := 1) (d := some 99) (v := .agg #[.bool ng_b, .slice ro_b rl_b rl_b]) rfl (by as_aux_lemma => kernel_rfl) (by as_aux_lemma => kernel_rfl) (by as_aux_lemma => kernel_rfl) (by as_aux_lemma => kernel_rfl) rfl (fun _ _ _ h => h) (Or.inl ⟨by rfl, ?_⟩) HC0 ?_
    · intro u hC
      obtain ⟨z0, z1, z2, z3, z4, z5⟩ := hC
      go_simp
    simp only [Act.put, List.setIfInBounds_toArray, List.set_cons_zero, List.set_cons_succ]
    refine wpHl.tk (i := 3) (d := some 101) (v := .agg #[.bool ng_a, .slice ro_a rl_a rl_a]) rfl (by as_aux_lemma => kernel_rfl) (by as_aux_lemma => kernel_rfl) (by as_aux_lemma => kernel_rfl) (by as_aux_lemma => kernel_rfl) rfl (fun _ _ _ h => h) (Or.inl ⟨by rfl, ?_⟩) HC0 ?_
    · intro u hC
      obtain ⟨z0, z1, z2, z3, z4, z5⟩ := hC
      go_simp
    simp only [Act.put, List.setIfInBounds_toArray, List.set_cons_zero, List.set_cons_succ]
    refine wpHl.one (i := 2) (by as_aux_lemma => kernel_rfl) rfl (fun K1 hK1 => ?_)
    rw [if_pos (by rfl)]
    go_simp
    go_at_call 12
    with_reducible refine (wsub_any (h_ab.arg.below K) (by omega) (h_b.arg.below K) (by omega)).mono ?_
    rintro e wn ⟨v_t1, rfl, t1, hb⟩
    replace K := below_trans K hb
    try replace t1 := t1.below hb
    try replace t2 := t2.below hb
    try replace t3 := t3.below hb
    try replace t4 := t4.below hb
    try replace t5 := t5.below hb
    try replace t6 := t6.below hb
    obtain ⟨ng_t1, ro_t1, rl_t1, rfl⟩ := t1.told
    clear HC0
    have HC0 := CC _ K
    refine hK1 _ _ ⟨fun _ => HC0, ?_⟩
    clear hK1 K1 hb
    try simp only [Act.put, List.setIfInBounds_toArray, List.set_cons_zero, List.set_cons_succ]
    refine wpHl.one (i := 4) (by as_aux_lemma => kernel_rfl) rfl (fun K1 hK1 => ?_)
    rw [if_pos (by rfl)]
    go_simp
    go_at_call 11
    with_reducible refine (wsame_any t1 (h_a.below K) (by omega)).mono ?_
    rintro e wn ⟨rfl, hb⟩
    replace K := below_trans K hb
    try replace t1 := t1.below hb
    try replace t2 := t2.below hb
    try replace t3 := t3.below hb
    try replace t4 := t4.below hb
    try replace t5 := t5.below hb
    try replace t6 := t6.below hb
    clear HC0
    have HC0 := CC _ K
    refine hK1 _ _ ⟨fun _ => HC0, ?_⟩
    clear hK1 K1 hb
    try simp only [Act.put, List.setIfInBounds_toArray, List.set_cons_zero, List.set_cons_succ]
    refine wpHl.tk (i := 5) (d := some 103) (v := .bool false) rfl (by as_aux_lemma => kernel_rfl) (by as_aux_lemma => kernel_rfl) (by as_aux_lemma => kernel_rfl) (by as_aux_lemma => kernel_rfl) rfl (fun _ _ _ h => h) (Or.inl ⟨by rfl, ?_⟩) HC0 ?_
    · intro u hC
      go_simp
    simp only [Act.put, List.setIfInBounds_toArray, List.set_cons_zero, List.set_cons_succ]
    refine wpHl.tk (i := 6) (d := some 104) (v := .bool false) rfl (by as_aux_lemma => kernel_rfl) (by as_aux_lemma => kernel_rfl) (by as_aux_lemma => kernel_rfl) (by as_aux_lemma => kernel_rfl) rfl (fun _ _ _ h => h) (Or.inl ⟨by rfl, ?_⟩) HC0 ?_
    · intro u hC
      go_simp
    simp only [Act.put, List.setIfInBounds_toArray, List.set_cons_zero, List.set_cons_succ]
    refine wpHl.tk (i := 7) (d := some 105) (v := .agg #[.bool ng_a, .slice ro_a rl_a rl_a]) rfl (by as_aux_lemma => kernel_rfl) (by as_aux_lemma => kernel_rfl) (by as_aux_lemma => kernel_rfl) (by as_aux_lemma => kernel_rfl) rfl (fun _ _ _ h => h) (Or.inl ⟨by rfl, ?_⟩) HC0 ?_
    · intro u hC
      obtain ⟨z0, z1, z2, z3, z4, z5⟩ := hC
      go_simp
    simp only [Act.put, List.setIfInBounds_toArray, List.set_cons_zero, List.set_cons_succ]
    refine wpHl.tk (i := 8) (d := some 106) (v := .agg #[.bool ng_b, .slice ro_b rl_b rl_b]) rfl (by as_aux_lemma => kernel_rfl) (by as_aux_lemma => kernel_rfl) (by as_aux_lemma => kernel_rfl) (by as_aux_lemma => kernel_rfl) rfl (fun _ _ _ h => h) (Or.inl ⟨by rfl, ?_⟩) HC0 ?_
    · intro u hC
      obtain ⟨z0, z1, z2, z3, z4, z5⟩ := hC
      go_simp
    simp only [Act.put, List.setIfInBounds_toArray, List.set_cons_zero, List.set_cons_succ]
    refine wpHl.tk (i := 10) (d := some 108) (v := .agg #[.bool ng_a, .slice ro_a rl_a rl_a]) rfl (by as_aux_lemma => kernel_rfl) (by as_aux_lemma => kernel_rfl) (by as_aux_lemma => kernel_rfl) (by as_aux_lemma => kernel_rfl) rfl (fun _ _ _ h => h) (Or.inl ⟨by rfl, ?_⟩) HC0 ?_
    · intro u hC
      obtain ⟨z0, z1, z2, z3, z4, z5⟩ := hC
      go_simp
    simp only [Act.put, List.setIfInBounds_toArray, List.set_cons_zero, List.set_cons_succ]
    refine wpHl.tk (i := 11) (d := some 109) (v := .agg #[.bool ng_b, .slice ro_b rl_b rl_b]) rfl (by as_aux_lemma => kernel_rfl) (by as_aux_lemma => kernel_rfl) (by as_aux_lemma => kernel_rfl) (by as_aux_lemma => kernel_rfl) rfl (fun _ _ _ h => h) (Or.inl ⟨by rfl, ?_⟩) HC0 ?_
    · intro u hC
      obtain ⟨z0, z1, z2, z3, z4, z5⟩ := hC
      go_simp
    simp only [Act.put, List.setIfInBounds_toArray, List.set_cons_zero, List.set_cons_succ]
    refine wpHl.one (i := 9) (by as_aux_lemma => kernel_rfl) rfl (fun K1 hK1 => ?_)
    rw [if_pos (by rfl)]
    go_simp
    go_at_call 12
    with_reducible refine (wsub_any (h_a.arg.below K) (by omega) (h_b.arg.below K) (by omega)).mono ?_
    rintro e wn ⟨v_t2, rfl, t2, hb⟩
    replace K := below_trans K hb
    try replace t1 := t1.below hb
    try replace t2 := t2.below hb
    try replace t3 := t3.below hb
    try replace t4 := t4.below hb
    try replace t5 := t5.below hb
    try replace t6 := t6.below hb
    obtain ⟨ng_t2, ro_t2, rl_t2, rfl⟩ := t2.told
    clear HC0
    have HC0 := CC _ K
    refine hK1 _ _ ⟨fun _ => HC0, ?_⟩
    clear hK1 K1 hb
    try simp only [Act.put, List.setIfInBounds_toArray, List.set_cons_zero, List.set_cons_succ]
    refine wpHl.one (i := 12) (by as_aux_lemma => kernel_rfl) rfl (fun K1 hK1 => ?_)
    rw [if_pos (by rfl)]
    go_simp
    go_at_call 13
    with_reducible refine (wneg_any (h_b.arg.below K) (by omega)).mono ?_
    rintro e wn ⟨v_t3, rfl, t3, hb⟩
    replace K := below_trans K hb
    try replace t1 := t1.below hb
    try replace t2 := t2.below hb
    try replace t3 := t3.below hb
    try replace t4 := t4.below hb
    try replace t5 := t5.below hb
    try replace t6 := t6.below hb
    obtain ⟨ng_t3, ro_t3, rl_t3, rfl⟩ := t3.told
    clear HC0
    have HC0 := CC _ K
    refine hK1 _ _ ⟨fun _ => HC0, ?_⟩
    clear hK1 K1 hb
    try simp only [Act.put, List.setIfInBounds_toArray, List.set_cons_zero, List.set_cons_succ]
    refine wpHl.one (i := 13) (by as_aux_lemma => kernel_rfl) rfl (fun K1 hK1 => ?_)
    rw [if_pos (by rfl)]
    go_simp
    go_at_call 8
    with_reducible refine (wadd_any (h_a.arg.below K) (by omega) t3.arg (by omega)).mono ?_
    rintro e wn ⟨v_t4, rfl, t4, hb⟩
    replace K := below_trans K hb
    try replace t1 := t1.below hb
    try replace t2 := t2.below hb
    try replace t3 := t3.below hb
    try replace t4 := t4.below hb
    try replace t5 := t5.below hb
    try replace t6 := t6.below hb
    obtain ⟨ng_t4, ro_t4, rl_t4, rfl⟩ := t4.told
    clear HC0
    have HC0 := CC _ K
    refine hK1 _ _ ⟨fun _ => HC0, ?_⟩
    clear hK1 K1 hb
    try simp only [Act.put, List.setIfInBounds_toArray, List.set_cons_zero, List.set_cons_succ]
    refine wpHl.one (i := 14) (by as_aux_lemma => kernel_rfl) rfl (fun K1 hK1 => ?_)
    rw [if_pos (by rfl)]
    go_simp
    go_at_call 11
    with_reducible refine (wsame_any t2 t4 (by omega)).mono ?_
    rintro e wn ⟨rfl, hb⟩
    replace K := below_trans K hb
    try replace t1 := t1.below hb
    try replace t2 := t2.below hb
    try replace t3 := t3.below hb
    try replace t4 := t4.below hb
    try replace t5 := t5.below hb
    try replace t6 := t6.below hb
    clear HC0
    have HC0 := CC _ K
    refine hK1 _ _ ⟨fun _ => HC0, ?_⟩
    clear hK1 K1 hb
    try simp only [Act.put, List.setIfInBounds_toArray, List.set_cons_zero, List.set_cons_succ]
    refine wpHl.tk (i := 15) (d := some 113) (v := .bool false) rfl (by as_aux_lemma => kernel_rfl) (by as_aux_lemma => kernel_rfl) (by as_aux_lemma => kernel_rfl) (by as_aux_lemma => kernel_rfl) rfl (fun _ _ _ h => h) (Or.inl ⟨by rfl, ?_⟩) HC0 ?_
    · intro u hC
      go_simp
    simp only [Act.put, List.setIfInBounds_toArray, List.set_cons_zero, List.set_cons_succ]
    refine wpHl.tk (i := 16) (d := some 114) (v := .bool false) rfl (by as_aux_lemma => kernel_rfl) (by as_aux_lemma => kernel_rfl) (by as_aux_lemma => kernel_rfl) (by as_aux_lemma => kernel_rfl) rfl (fun _ _ _ h => h) (Or.inl ⟨by rfl, ?_⟩) HC0 ?_
    · intro u hC
      go_simp
    simp only [Act.put, List.setIfInBounds_toArray, List.set_cons_zero, List.set_cons_succ]
    refine wpHl.tk (i := 17) (d := some 115) (v := .bool false) rfl (by as_aux_lemma => kernel_rfl) (by as_aux_lemma => kernel_rfl) (by as_aux_lemma => kernel_rfl) (by as_aux_lemma => kernel_rfl) rfl (fun _ _ _ h => h) (Or.inl ⟨by rfl, ?_⟩) HC0 ?_
    · intro u hC
      go_simp
    simp only [Act.put, List.setIfInBounds_toArray, List.set_cons_zero, List.set_cons_succ]
    refine wpHl.tk (i := 18) (d := some 116) (v := .agg #[.bool ng_a, .slice ro_a rl_a rl_a]) rfl (by as_aux_lemma => kernel_rfl) (by as_aux_lemma => kernel_rfl) (by as_aux_lemma => kernel_rfl) (by as_aux_lemma => kernel_rfl) rfl (fun _ _ _ h => h) (Or.inl ⟨by rfl, ?_⟩) HC0 ?_
    · intro u hC
      obtain ⟨z0, z1, z2, z3, z4, z5⟩ := hC
      go_simp
    simp only [Act.put, List.setIfInBounds_toArray, List.set_cons_zero, List.set_cons_succ]
    refine wpHl.tk (i := 21) (d := some 119) (v := .agg #[.bool ng_a, .slice ro_a rl_a rl_a]) rfl (by as_aux_lemma => kernel_rfl) (by as_aux_lemma => kernel_rfl) (by as_aux_lemma => kernel_rfl) (by as_aux_lemma => kernel_rfl) rfl (fun _ _ _ h => h) (Or.inl ⟨by rfl, ?_⟩) HC0 ?_
    · intro u hC
      obtain ⟨z0, z1, z2, z3, z4, z5⟩ := hC
      go_simp
    simp only [Act.put, List.setIfInBounds_toArray, List.set_cons_zero, List.set_cons_succ]
    refine wpHl.one (i := 19) (by as_aux_lemma => kernel_rfl) rfl (fun K1 hK1 => ?_)
    rw [if_pos (by rfl)]
    go_simp
    go_at_call 13
    with_reducible refine (wneg_any (h_a.arg.below K) (by omega)).mono ?_
    rintro e wn ⟨v_t5, rfl, t5, hb⟩
    replace K := below_trans K hb
    try replace t1 := t1.below hb
    try replace t2 := t2.below hb
    try replace t3 := t3.below hb
    try replace t4 := t4.below hb
    try replace t5 := t5.below hb
    try replace t6 := t6.below hb
    obtain ⟨ng_t5, ro_t5, rl_t5, rfl⟩ := t5.told
    clear HC0
    have HC0 := CC _ K
    refine hK1 _ _ ⟨fun _ => HC0, ?_⟩
    clear hK1 K1 hb
    try simp only [Act.put, List.setIfInBounds_toArray, List.set_cons_zero, List.set_cons_succ]
    refine wpHl.one (i := 20) (by as_aux_lemma => kernel_rfl) rfl (fun K1 hK1 => ?_)
    rw [if_pos (by rfl)]
    go_simp
    go_at_call 13
    with_reducible refine (wneg_any t5.arg (by omega)).mono ?_
    rintro e wn ⟨v_t6, rfl, t6, hb⟩
    replace K := below_trans K hb
    try replace t1 := t1.below hb
    try replace t2 := t2.below hb
    try replace t3 := t3.below hb
    try replace t4 := t4.below hb
    try replace t5 := t5.below hb
    try replace t6 := t6.below hb
    obtain ⟨ng_t6, ro_t6, rl_t6, rfl⟩ := t6.told
    clear HC0
    have HC0 := CC _ K
    refine hK1 _ _ ⟨fun _ => HC0, ?_⟩
    clear hK1 K1 hb
    try simp only [Act.put, List.setIfInBounds_toArray, List.set_cons_zero, List.set_cons_succ]
    refine wpHl.one (i := 22) (by as_aux_lemma => kernel_rfl) rfl (fun K1 hK1 => ?_)
    rw [if_pos (by rfl)]
    go_simp
    go_at_call 11
    with_reducible refine (wsame_any t6 (h_a.below K) (by omega)).mono ?_
    rintro e wn ⟨rfl, hb⟩
    replace K := below_trans K hb
    try replace t1 := t1.below hb
    try replace t2 := t2.below hb
    try replace t3 := t3.below hb
    try replace t4 := t4.below hb
    try replace t5 := t5.below hb
    try replace t6 := t6.below hb
    clear HC0
    have HC0 := CC _ K
    refine hK1 _ _ ⟨fun _ => HC0, ?_⟩
    clear hK1 K1 hb
    try simp only [Act.put, List.setIfInBounds_toArray, List.set_cons_zero, List.set_cons_succ]
    refine wpHl.tk (i := 23) (d := some 121) (v := .bool false) rfl (by as_aux_lemma => kernel_rfl) (by as_aux_lemma => kernel_rfl) (by as_aux_lemma => kernel_rfl) (by as_aux_lemma => kernel_rfl) rfl (fun _ _ _ h => h) (Or.inl ⟨by rfl, ?_⟩) HC0 ?_
    · intro u hC
      go_simp
    simp only [Act.put, List.setIfInBounds_toArray, List.set_cons_zero, List.set_cons_succ]
    refine wpHl.tk (i := 24) (d := some 122) (v := .bool false) rfl (by as_aux_lemma => kernel_rfl) (by as_aux_lemma => kernel_rfl) (by as_aux_lemma => kernel_rfl) (by as_aux_lemma => kernel_rfl) rfl (fun _ _ _ h => h) (Or.inl ⟨by rfl, ?_⟩) HC0 ?_
    · intro u hC
      go_simp
    simp only [Act.put, List.setIfInBounds_toArray, List.set_cons_zero, List.set_cons_succ]
    refine wpHl.done (by as_aux_lemma => kernel_rfl) ?_ _
    clear CC HC0
    have K9 := hide K
    clear K t1 t2 t3 t4 t5 t6
    go_wp2_with fail
    go_meet
    case rel => exact ⟨rfl, K9.out⟩
  case rest =>
  obtain ⟨rfl, K⟩ := hcut
  rename World => w7
  replace KB := below_trans KB K
  replace h_a := h_a.below K
  replace HC_a := hide (HC_a.out.below K)
  replace h_b := h_b.below K
  replace HC_b := hide (HC_b.out.below K)
  replace h_c := h_c.below K
  replace HC_c := hide (HC_c.out.below K)
  replace h_ab := h_ab.below K
  replace HC_ab := hide (HC_ab.out.below K)
  replace h_bc := h_bc.below K
  replace HC_bc := hide (HC_bc.out.below K)
  replace h_p := h_p.below K
  replace HC_p := hide (HC_p.out.below K)
  replace h_q := h_q.below K
  replace HC_q := hide (HC_q.out.below K)
  clear K
  go_wp2_with fail
  with_reducible refine (wfrom_any (n := 0) (by omega) (by omega)).mono ?_
  rintro e w8 ⟨v_o, rfl, h_o, hb⟩
  replace KB := below_trans KB hb
  replace h_a := h_a.below hb
  replace HC_a := hide (HC_a.out.below hb)
  replace h_b := h_b.below hb
  replace HC_b := hide (HC_b.out.below hb)
  replace h_c := h_c.below hb
  replace HC_c := hide (HC_c.out.below hb)
  replace h_ab := h_ab.below hb
  replace HC_ab := hide (HC_ab.out.below hb)
  replace h_bc := h_bc.below hb
  replace HC_bc := hide (HC_bc.out.below hb)
  replace h_p := h_p.below hb
  replace HC_p := hide (HC_p.out.below hb)
  replace h_q := h_q.below hb
  replace HC_q := hide (HC_q.out.below hb)
  clear hb
  obtain ⟨ng_o, ro_o, rl_o, rfl⟩ := h_o.told
  go_wp2_with fail
  with_reducible refine (wfrom_any (n := 1) (by omega) (by omega)).mono ?_
  rintro e w9 ⟨v_i, rfl, h_i, hb⟩
  replace KB := below_trans KB hb
  replace h_a := h_a.below hb
  replace HC_a := hide (HC_a.out.below hb)
  replace h_b := h_b.below hb
  replace HC_b := hide (HC_b.out.below hb)
  replace h_c := h_c.below hb
  replace HC_c := hide (HC_c.out.below hb)
  replace h_ab := h_ab.below hb
  replace HC_ab := hide (HC_ab.out.below hb)
  replace h_bc := h_bc.below hb
  replace HC_bc := hide (HC_bc.out.below hb)
  replace h_p := h_p.below hb
  replace HC_p := hide (HC_p.out.below hb)
  replace h_q := h_q.below hb
  replace HC_q := hide (HC_q.out.below hb)
  replace h_o := h_o.below hb
  clear hb
  obtain ⟨ng_i, ro_i, rl_i, rfl⟩ := h_i.told
  clear h_ab h_bc h_p h_q HC_ab HC_bc HC_p HC_q h_b h_c HC_b HC_c
  go_upto_region 13 with fail
  have hb : Below w9.heap.size w9 ((w9.alloc (.cells #[.bool ng_o, .slice ro_o rl_o rl_o] 25)).alloc (.cells #[.bool ng_i, .slice ro_i rl_i rl_i] 25)) := (below_trans (bel_alloc _ _) (bel_alloc _ _))
  obtain ⟨b_o, eb⟩ : ∃ b, b = w9.heap.size := ⟨_, rfl⟩
  have z1 : (w9.alloc (.cells #[.bool ng_o, .slice ro_o rl_o rl_o] 25)).heap.size = w9.heap.size + 1 := by simp
  have C_o := (cell2_new w9 (.bool ng_o) (.slice ro_o rl_o rl_o) 25).alloc (.cells #[.bool ng_i, .slice ro_i rl_i rl_i] 25)
  have C_i := cell2_new (w9.alloc (.cells #[.bool ng_o, .slice ro_o rl_o rl_o] 25)) (.bool ng_i) (.slice ro_i rl_i rl_i) 25
  rw [z1] at C_i
  clear z1
  replace KB := below_trans KB hb
  replace h_o := h_o.below hb
  replace h_i := h_i.below hb
  replace h_a := h_a.below hb
  replace HC_a := hide (HC_a.out.below hb)
  clear hb
  rw [← eb] at C_o C_i ⊢
  clear eb
  generalize ((w9.alloc (.cells #[.bool ng_o, .slice ro_o rl_o rl_o] 25)).alloc (.cells #[.bool ng_i, .slice ro_i rl_i rl_i] 25)) = w10 at *
  have HC_o := hide C_o
  clear C_o
  have HC_i := hide C_i
  clear C_i
  go_cut [6] from 125 (fun s6 w' => s6 = .bool true ∧ Below w10.heap.size w10 w')
  case first =>
    have CC : ∀ u : World, Below w10.heap.size w10 u → u.cell? ⟨b_a, 0, none⟩ = some (.bool ng_a) ∧ u.cell? ⟨b_a, 1, none⟩ = some (.slice ro_a rl_a rl_a) ∧ u.cell? ⟨b_o, 0, none⟩ = some (.bool ng_o) ∧ u.cell? ⟨b_o, 1, none⟩ = some (.slice ro_o rl_o rl_o) ∧ u.cell? ⟨b_o + 1, 0, none⟩ = some (.bool ng_i) ∧ u.cell? ⟨b_o + 1, 1, none⟩ = some (.slice ro_i rl_i rl_i) := fun u hu => ⟨(HC_a.out.below hu).c0, (HC_a.out.below hu).c1, (HC_o.out.below hu).c0, (HC_o.out.below hu).c1, (HC_i.out.below hu).c0, (HC_i.out.below hu).c1⟩
    have K : Below w10.heap.size w10 w10.drew := (Below.refl _ _).drew
    have HC0 := CC _ K
    refine wpHl.region (C := fun u => u.cell? ⟨b_a, 0, none⟩ = some (.bool ng_a) ∧ u.cell? ⟨b_a, 1, none⟩ = some (.slice ro_a rl_a rl_a) ∧ u.cell? ⟨b_o, 0, none⟩ = some (.bool ng_o) ∧ u.cell? ⟨b_o, 1, none⟩ = some (.slice ro_o rl_o rl_o) ∧ u.cell? ⟨b_o + 1, 0, none⟩ = some (.bool ng_i) ∧ u.cell? ⟨b_o + 1, 1, none⟩ = some (.slice ro_i rl_i rl_i)) (D := fun _ => false) (by kernel_rfl) ?_
    refine wpHl.tk (i := 0) (d := some 125) (v := .agg #[.bool ng_a, .slice ro_a rl_a rl_a]) rfl (by as_aux_lemma => kernel_rfl) (by as_aux_lemma => kernel_rfl) (by as_aux_lemma => kernel_rfl) (by as_aux_lemma => kernel_rfl) rfl (fun _ _ _ h => h) (Or.inl ⟨by rfl, ?_⟩) HC0 ?_
    · intro u hC
      obtain ⟨z0, z1, z2, z3, z4, z5⟩ := hC
      go_simp
    simp only [Act.put, List.setIfInBounds_toArray, List.set_cons_zero, List.set_cons_succ]
    refine wpHl.tk (i := 1) (d := some 126) (v := .agg #[.bool ng_o, .slice ro_o rl_o rl_o]) rfl (by as_aux_lemma => kernel_rfl) (by as_aux_lemma => kernel_rfl) (by as_aux_lemma => kernel_rfl) (by as_aux_lemma => kernel_rfl) rfl (fun _ _ _ h => h) (Or.inl ⟨by rfl, ?_⟩) HC0 ?_
    · intro u hC
      obtain ⟨z0, z1, z2, z3, z4, z5⟩ := hC
      go_simp
    simp only [Act.put, List.setIfInBounds_toArray, List.set_cons_zero, List.set_cons_succ]
    refine wpHl.tk (i := 3) (d := some 128) (v := .agg #[.bool ng_a, .slice ro_a rl_a rl_a]) rfl (by as_aux_lemma => kernel_rfl) (by as_aux_lemma => kernel_rfl) (by as_aux_lemma => kernel_rfl) (by as_aux_lemma => kernel_rfl) rfl (fun _ _ _ h => h) (Or.inl ⟨by rfl, ?_⟩) HC0 ?_
    · intro u hC
      obtain ⟨z0, z1, z2, z3, z4, z5⟩ := hC
      go_simp
    simp only [Act.put, List.setIfInBounds_toArray, List.set_cons_zero, List.set_cons_succ]
    refine wpHl.one (i := 2) (by as_aux_lemma => kernel_rfl) rfl (fun K1 hK1 => ?_)
    rw [if_pos (by rfl)]
    go_simp
    go_at_call 8
    with_reducible refine (wadd_any (h_a.arg.below K) (by omega) (h_o.arg.below K) (by omega)).mono ?_
    rintro e wn ⟨v_t1, rfl, t1, hb⟩
    replace K := below_trans K hb
    try replace t1 := t1.below hb
    try replace t2 := t2.below hb
    try replace t3 := t3.below hb
    try replace t4 := t4.below hb
    try replace t5 := t5.below hb
    try replace t6 := t6.below hb
    try replace t7 := t7.below hb
    obtain ⟨ng_t1, ro_t1, rl_t1, rfl⟩ := t1.told
    clear HC0
    have HC0 := CC _ K
    refine hK1 _ _ ⟨fun _ => HC0, ?_⟩
    clear hK1 K1 hb
    try simp only [Act.put, List.setIfInBounds_toArray, List.set_cons_zero, List.set_cons_succ]
    refine wpHl.one (i := 4) (by as_aux_lemma => kernel_rfl) rfl (fun K1 hK1 => ?_)
    rw [if_pos (by rfl)]
    go_simp
    go_at_call 11
    with_reducible refine (wsame_any t1 (h_a.below K) (by omega)).mono ?_
    rintro e wn ⟨rfl, hb⟩
    replace K := below_trans K hb
    try replace t1 := t1.below hb
    try replace t2 := t2.below hb
    try replace t3 := t3.below hb
    try replace t4 := t4.below hb
    try replace t5 := t5.below hb
    try replace t6 := t6.below hb
    try replace t7 := t7.below hb
    clear HC0
    have HC0 := CC _ K
    refine hK1 _ _ ⟨fun _ => HC0, ?_⟩
    clear hK1 K1 hb
    try simp only [Act.put, List.setIfInBounds_toArray, List.set_cons_zero, List.set_cons_succ]
    refine wpHl.tk (i := 5) (d := some 130) (v := .bool true) rfl (by as_aux_lemma => kernel_rfl) (by as_aux_lemma => kernel_rfl) (by as_aux_lemma => kernel_rfl) (by as_aux_lemma => kernel_rfl) rfl (fun _ _ _ h => h) (Or.inl ⟨by rfl, ?_⟩) HC0 ?_
    · intro u hC
      go_simp
    simp only [Act.put, List.setIfInBounds_toArray, List.set_cons_zero, List.set_cons_succ]
    refine wpHl.tk (i := 6) (d := some 131) (v := .agg #[.bool ng_a, .slice ro_a rl_a rl_a]) rfl (by as_aux_lemma => kernel_rfl) (by as_aux_lemma => kernel_rfl) (by as_aux_lemma => kernel_rfl) (by as_aux_lemma => kernel_rfl) rfl (fun _ _ _ h => h) (Or.inl ⟨by rfl, ?_⟩) HC0 ?_
    · intro u hC
      obtain ⟨z0, z1, z2, z3, z4, z5⟩ := hC
      go_simp
    simp only [Act.put, List.setIfInBounds_toArray, List.set_cons_zero, List.set_cons_succ]
    refine wpHl.tk (i := 7) (d := some 132) (v := .agg #[.bool ng_i, .slice ro_i rl_i rl_i]) rfl (by as_aux_lemma => kernel_rfl) (by as_aux_lemma => kernel_rfl) (by as_aux_lemma => kernel_rfl) (by as_aux_lemma => kernel_rfl) rfl (fun _ _ _ h => h) (Or.inl ⟨by rfl, ?_⟩) HC0 ?_
    · intro u hC
      obtain ⟨z0, z1, z2, z3, z4, z5⟩ := hC
      go_simp
    simp only [Act.put, List.setIfInBounds_toArray, List.set_cons_zero, List.set_cons_succ]
    refine wpHl.tk (i := 9) (d := some 134) (v := .agg #[.bool ng_a, .slice ro_a rl_a rl_a]) rfl (by as_aux_lemma => kernel_rfl) (by as_aux_lemma => kernel_rfl) (by as_aux_lemma => kernel_rfl) (by as_aux_lemma => kernel_rfl) rfl (fun _ _ _ h => h) (Or.inl ⟨by rfl, ?_⟩) HC0 ?_
    · intro u hC
      obtain ⟨z0, z1, z2, z3, z4, z5⟩ := hC
      go_simp
    simp only [Act.put, List.setIfInBounds_toArray, List.set_cons_zero, List.set_cons_succ]
    refine wpHl.one (i := 8) (by as_aux_lemma => kernel_rfl) rfl (fun K1 hK1 => ?_)
    rw [if_pos (by rfl)]
    go_simp
    go_at_call 9
    with_reducible refine (wmul_any (h_a.arg.below K) (by omega) (h_i.arg.below K) (by omega)).mono ?_
    rintro e wn ⟨v_t2, rfl, t2, hb⟩
    replace K := below_trans K hb
    try replace t1 := t1.below hb
    try replace t2 := t2.below hb
    try replace t3 := t3.below hb
    try replace t4 := t4.below hb
    try replace t5 := t5.below hb
    try replace t6 := t6.below hb
    try replace t7 := t7.below hb
    obtain ⟨ng_t2, ro_t2, rl_t2, rfl⟩ := t2.told
    clear HC0
    have HC0 := CC _ K
    refine hK1 _ _ ⟨fun _ => HC0, ?_⟩
    clear hK1 K1 hb
    try simp only [Act.put, List.setIfInBounds_toArray, List.set_cons_zero, List.set_cons_succ]
    refine wpHl.one (i := 10) (by as_aux_lemma => kernel_rfl) rfl (fun K1 hK1 => ?_)
    rw [if_pos (by rfl)]
    go_simp
    go_at_call 11
    with_reducible refine (wsame_any t2 (h_a.below K) (by omega)).mono ?_
    rintro e wn ⟨rfl, hb⟩
    replace K := below_trans K hb
    try replace t1 := t1.below hb
    try replace t2 := t2.below hb
    try replace t3 := t3.below hb
    try replace t4 := t4.below hb
    try replace t5 := t5.below hb
    try replace t6 := t6.below hb
    try replace t7 := t7.below hb
    clear HC0
    have HC0 := CC _ K
    refine hK1 _ _ ⟨fun _ => HC0, ?_⟩
    clear hK1 K1 hb
    try simp only [Act.put, List.setIfInBounds_toArray, List.set_cons_zero, List.set_cons_succ]
    refine wpHl.tk (i := 11) (d := some 136) (v := .bool true) rfl (by as_aux_lemma => kernel_rfl) (by as_aux_lemma => kernel_rfl) (by as_aux_lemma => kernel_rfl) (by as_aux_lemma => kernel_rfl) rfl (fun _ _ _ h => h) (Or.inl ⟨by rfl, ?_⟩) HC0 ?_
    · intro u hC
      go_simp
    simp only [Act.put, List.setIfInBounds_toArray, List.set_cons_zero, List.set_cons_succ]
    refine wpHl.tk (i := 12) (d := some 137) (v := .bool true) rfl (by as_aux_lemma => kernel_rfl) (by as_aux_lemma => kernel_rfl) (by as_aux_lemma => kernel_rfl) (by as_aux_lemma => kernel_rfl) rfl (fun _ _ _ h => h) (Or.inl ⟨by rfl, ?_⟩) HC0 ?_
    · intro u hC
      go_simp
    simp only [Act.put, List.setIfInBounds_toArray, List.set_cons_zero, List.set_cons_succ]
    refine wpHl.tk (i := 13) (d := some 138) (v := .agg #[.bool ng_a, .slice ro_a rl_a rl_a]) rfl (by as_aux_lemma => kernel_rfl) (by as_aux_lemma => kernel_rfl) (by as_aux_lemma => kernel_rfl) (by as_aux_lemma => kernel_rfl) rfl (fun _ _ _ h => h) (Or.inl ⟨by rfl, ?_⟩) HC0 ?_
    · intro u hC
      obtain ⟨z0, z1, z2, z3, z4, z5⟩ := hC
      go_simp
    simp only [Act.put, List.setIfInBounds_toArray, List.set_cons_zero, List.set_cons_succ]
    refine wpHl.tk (i := 14) (d := some 139) (v := .agg #[.bool ng_o, .slice ro_o rl_o rl_o]) rfl (by as_aux_lemma => kernel_rfl) (by as_aux_lemma => kernel_rfl) (by as_aux_lemma => kernel_rfl) (by as_aux_lemma => kernel_rfl) rfl (fun _ _ _ h => h) (Or.inl ⟨by rfl, ?_⟩) HC0 ?_
    · intro u hC
      obtain ⟨z0, z1, z2, z3, z4, z5⟩ := hC
      go_simp
    simp only [Act.put, List.setIfInBounds_toArray, List.set_cons_zero, List.set_cons_succ]
    refine wpHl.tk (i := 16) (d := some 141) (v := .agg #[.bool ng_o, .slice ro_o rl_o rl_o]) rfl (by as_aux_lemma => kernel_rfl) (by as_aux_lemma => kernel_rfl) (by as_aux_lemma => kernel_rfl) (by as_aux_lemma => kernel_rfl) rfl (fun _ _ _ h => h) (Or.inl ⟨by rfl, ?_⟩) HC0 ?_
    · intro u hC
      obtain ⟨z0, z1, z2, z3, z4, z5⟩ := hC
      go_simp
    simp only [Act.put, List.setIfInBounds_toArray, List.set_cons_zero, List.set_cons_succ]
    refine wpHl.one (i := 15) (by as_aux_lemma => kernel_rfl) rfl (fun K1 hK1 => ?_)
    rw [if_pos (by rfl)]
    go_simp
    go_at_call 9
    with_reducible refine (wmul_any (h_a.arg.below K) (by omega) (h_o.arg.below K) (by omega)).mono ?_
    rintro e wn ⟨v_t3, rfl, t3, hb⟩
    replace K := below_trans K hb
    try replace t1 := t1.below hb
    try replace t2 := t2.below hb
    try replace t3 := t3.below hb
    try replace t4 := t4.below hb
    try replace t5 := t5.below hb
    try replace t6 := t6.below hb
    try replace t7 := t7.below hb
    obtain ⟨ng_t3, ro_t3, rl_t3, rfl⟩ := t3.told
    clear HC0
    have HC0 := CC _ K
    refine hK1 _ _ ⟨fun _ => HC0, ?_⟩
    clear hK1 K1 hb
    try simp only [Act.put, List.setIfInBounds_toArray, List.set_cons_zero, List.set_cons_succ]
    refine wpHl.one (i := 17) (by as_aux_lemma => kernel_rfl) rfl (fun K1 hK1 => ?_)
    rw [if_pos (by rfl)]
    go_simp
    go_at_call 11
    with_reducible refine (wsame_any t3 (h_o.below K) (by simp)).mono ?_
    rintro e wn ⟨rfl, hb⟩
    replace K := below_trans K hb
    try replace t1 := t1.below hb
    try replace t2 := t2.below hb
    try replace t3 := t3.below hb
    try replace t4 := t4.below hb
    try replace t5 := t5.below hb
    try replace t6 := t6.below hb
    try replace t7 := t7.below hb
    clear HC0
    have HC0 := CC _ K
    refine hK1 _ _ ⟨fun _ => HC0, ?_⟩
    clear hK1 K1 hb
    try simp only [Act.put, List.setIfInBounds_toArray, List.set_cons_zero, List.set_cons_succ]
    refine wpHl.tk (i := 18) (d := some 143) (v := .bool true) rfl (by as_aux_lemma => kernel_rfl) (by as_aux_lemma => kernel_rfl) (by as_aux_lemma => kernel_rfl) (by as_aux_lemma => kernel_rfl) rfl (fun _ _ _ h => h) (Or.inl ⟨by rfl, ?_⟩) HC0 ?_
    · intro u hC
      go_simp
    simp only [Act.put, List.setIfInBounds_toArray, List.set_cons_zero, List.set_cons_succ]
    refine wpHl.tk (i := 19) (d := some 144) (v := .bool true) rfl (by as_aux_lemma => kernel_rfl) (by as_aux_lemma => kernel_rfl) (by as_aux_lemma => kernel_rfl) (by as_aux_lemma => kernel_rfl) rfl (fun _ _ _ h => h) (Or.inl ⟨by rfl, ?_⟩) HC0 ?_
    · intro u hC
      go_simp
    simp only [Act.put, List.setIfInBounds_toArray, List.set_cons_zero, List.set_cons_succ]
    refine wpHl.tk (i := 20) (d := some 145) (v := .agg #[.bool ng_a, .slice ro_a rl_a rl_a]) rfl (by as_aux_lemma => kernel_rfl) (by as_aux_lemma => kernel_rfl) (by as_aux_lemma => kernel_rfl) (by as_aux_lemma => kernel_rfl) rfl (fun _ _ _ h => h) (Or.inl ⟨by rfl, ?_⟩) HC0 ?_
    · intro u hC
      obtain ⟨z0, z1, z2, z3, z4, z5⟩ := hC
      go_simp
    simp only [Act.put, List.setIfInBounds_toArray, List.set_cons_zero, List.set_cons_succ]
    refine wpHl.tk (i := 21) (d := some 146) (v := .agg #[.bool ng_a, .slice ro_a rl_a rl_a]) rfl (by as_aux_lemma => kernel_rfl) (by as_aux_lemma => kernel_rfl) (by as_aux_lemma => kernel_rfl) (by as_aux_lemma => kernel_rfl) rfl (fun _ _ _ h => h) (Or.inl ⟨by rfl, ?_⟩) HC0 ?_
    · intro u hC
      obtain ⟨z0, z1, z2, z3, z4, z5⟩ := hC
      go_simp
    simp only [Act.put, List.setIfInBounds_toArray, List.set_cons_zero, List.set_cons_succ]
    refine wpHl.tk (i := 23) (d := some 148) (v := .agg #[.bool ng_o, .slice ro_o rl_o rl_o]) rfl (by as_aux_lemma => kernel_rfl) (by as_aux_lemma => kernel_rfl) (by as_aux_lemma => kernel_rfl) (by as_aux_lemma => kernel_rfl) rfl (fun _ _ _ h => h) (Or.inl ⟨by rfl, ?_⟩) HC0 ?_
    · intro u hC
      obtain ⟨z0, z1, z2, z3, z4, z5⟩ := hC
      go_simp
    simp only [Act.put, List.setIfInBounds_toArray, List.set_cons_zero, List.set_cons_succ]
    refine wpHl.one (i := 22) (by as_aux_lemma => kernel_rfl) rfl (fun K1 hK1 => ?_)
    rw [if_pos (by rfl)]
    go_simp
    go_at_call 12
    with_reducible refine (wsub_any (h_a.arg.below K) (by omega) (h_a.arg.below K) (by omega)).mono ?_
    rintro e wn ⟨v_t4, rfl, t4, hb⟩
    replace K := below_trans K hb
    try replace t1 := t1.below hb
    try replace t2 := t2.below hb
    try replace t3 := t3.below hb
    try replace t4 := t4.below hb
    try replace t5 := t5.below hb
    try replace t6 := t6.below hb
    try replace t7 := t7.below hb
    obtain ⟨ng_t4, ro_t4, rl_t4, rfl⟩ := t4.told
    clear HC0
    have HC0 := CC _ K
    refine hK1 _ _ ⟨fun _ => HC0, ?_⟩
    clear hK1 K1 hb
    try simp only [Act.put, List.setIfInBounds_toArray, List.set_cons_zero, List.set_cons_succ]
    refine wpHl.one (i := 24) (by as_aux_lemma => kernel_rfl) rfl (fun K1 hK1 => ?_)
    rw [if_pos (by rfl)]
    go_simp
    go_at_call 11
    with_reducible refine (wsame_any t4 (h_o.below K) (by omega)).mono ?_
    rintro e wn ⟨rfl, hb⟩
    replace K := below_trans K hb
    try replace t1 := t1.below hb
    try replace t2 := t2.below hb
    try replace t3 := t3.below hb
    try replace t4 := t4.below hb
    try replace t5 := t5.below hb
    try replace t6 := t6.below hb
    try replace t7 := t7.below hb
    clear HC0
    have HC0 := CC _ K
    refine hK1 _ _ ⟨fun _ => HC0, ?_⟩
    clear hK1 K1 hb
    try simp only [Act.put, List.setIfInBounds_toArray, List.set_cons_zero, List.set_cons_succ]
    refine wpHl.tk (i := 25) (d := some 150) (v := .bool true) rfl (by as_aux_lemma => kernel_rfl) (by as_aux_lemma => kernel_rfl) (by as_aux_lemma => kernel_rfl) (by as_aux_lemma => kernel_rfl) rfl (fun _ _ _ h => h) (Or.inl ⟨by rfl, ?_⟩) HC0 ?_
    · intro u hC
      go_simp
    simp only [Act.put, List.setIfInBounds_toArray, List.set_cons_zero, List.set_cons_succ]
    refine wpHl.tk (i := 26) (d := some 151) (v := .bool true) rfl (by as_aux_lemma => kernel_rfl) (by as_aux_lemma => kernel_rfl) (by as_aux_lemma => kernel_rfl) (by as_aux_lemma => kernel_rfl) rfl (fun _ _ _ h => h) (Or.inl ⟨by rfl, ?_⟩) HC0 ?_
    · intro u hC
      go_simp
    simp only [Act.put, List.setIfInBounds_toArray, List.set_cons_zero, List.set_cons_succ]
    refine wpHl.tk (i := 27) (d := some 152) (v := .agg #[.bool ng_a, .slice ro_a rl_a rl_a]) rfl (by as_aux_lemma => kernel_rfl) (by as_aux_lemma => kernel_rfl) (by as_aux_lemma => kernel_rfl) (by as_aux_lemma => kernel_rfl) rfl (fun _ _ _ h => h) (Or.inl ⟨by rfl, ?_⟩) HC0 ?_
    · intro u hC
      obtain ⟨z0, z1, z2, z3, z4, z5⟩ := hC
      go_simp
    simp only [Act.put, List.setIfInBounds_toArray, List.set_cons_zero, List.set_cons_succ]
    refine wpHl.tk (i := 30) (d := some 155) (v := .agg #[.bool ng_a, .slice ro_a rl_a rl_a]) rfl (by as_aux_lemma => kernel_rfl) (by as_aux_lemma => kernel_rfl) (by as_aux_lemma => kernel_rfl) (by as_aux_lemma => kernel_rfl) rfl (fun _ _ _ h => h) (Or.inl ⟨by rfl, ?_⟩) HC0 ?_
    · intro u hC
      obtain ⟨z0, z1, z2, z3, z4, z5⟩ := hC
      go_simp
    simp only [Act.put, List.setIfInBounds_toArray, List.set_cons_zero, List.set_cons_succ]
    refine wpHl.one (i := 28) (by as_aux_lemma => kernel_rfl) rfl (fun K1 hK1 => ?_)
    rw [if_pos (by rfl)]
    go_simp
    go_at_call 14
    with_reducible refine (wfrom_any (n := -1) (by omega) (by omega)).mono ?_
    rintro e wn ⟨v_t5, rfl, t5, hb⟩
    replace K := below_trans K hb
    try replace t1 := t1.below hb
    try replace t2 := t2.below hb
    try replace t3 := t3.below hb
    try replace t4 := t4.below hb
    try replace t5 := t5.below hb
    try replace t6 := t6.below hb
    try replace t7 := t7.below hb
    obtain ⟨ng_t5, ro_t5, rl_t5, rfl⟩ := t5.told
    clear HC0
    have HC0 := CC _ K
    refine hK1 _ _ ⟨fun _ => HC0, ?_⟩
    clear hK1 K1 hb
    try simp only [Act.put, List.setIfInBounds_toArray, List.set_cons_zero, List.set_cons_succ]
    refine wpHl.one (i := 29) (by as_aux_lemma => kernel_rfl) rfl (fun K1 hK1 => ?_)
    rw [if_pos (by rfl)]
    go_simp
    go_at_call 9
    with_reducible refine (wmul_any (h_a.arg.below K) (by omega) t5.arg (by omega)).mono ?_
    rintro e wn ⟨v_t6, rfl, t6, hb⟩
    replace K := below_trans K hb
    try replace t1 := t1.below hb
    try replace t2 := t2.below hb
    try replace t3 := t3.below hb
    try replace t4 := t4.below hb
    try replace t5 := t5.below hb
    try replace t6 := t6.below hb
    try replace t7 := t7.below hb
    obtain ⟨ng_t6, ro_t6, rl_t6, rfl⟩ := t6.told
    clear HC0
    have HC0 := CC _ K
    refine hK1 _ _ ⟨fun _ => HC0, ?_⟩
    clear hK1 K1 hb
    try simp only [Act.put, List.setIfInBounds_toArray, List.set_cons_zero, List.set_cons_succ]
    refine wpHl.one (i := 31) (by as_aux_lemma => kernel_rfl) rfl (fun K1 hK1 => ?_)
    rw [if_pos (by rfl)]
    go_simp
    go_at_call 13
    with_reducible refine (wneg_any (h_a.arg.below K) (by omega)).mono ?_
    rintro e wn ⟨v_t7, rfl, t7, hb⟩
    replace K := below_trans K hb
    try replace t1 := t1.below hb
    try replace t2 := t2.below hb
    try replace t3 := t3.below hb
    try replace t4 := t4.below hb
    try replace t5 := t5.below hb
    try replace t6 := t6.below hb
    try replace t7 := t7.below hb
    obtain ⟨ng_t7, ro_t7, rl_t7, rfl⟩ := t7.told
    clear HC0
    have HC0 := CC _ K
    refine hK1 _ _ ⟨fun _ => HC0, ?_⟩
    clear hK1 K1 hb
    try simp only [Act.put, List.setIfInBounds_toArray, List.set_cons_zero, List.set_cons_succ]
    refine wpHl.one (i := 32) (by as_aux_lemma => kernel_rfl) rfl (fun K1 hK1 => ?_)
    rw [if_pos (by rfl)]
    go_simp
    go_at_call 11
    with_reducible refine (wsame_any t6 t7 (by omega)).mono ?_
    rintro e wn ⟨rfl, hb⟩
    replace K := below_trans K hb
    try replace t1 := t1.below hb
    try replace t2 := t2.below hb
    try replace t3 := t3.below hb
    try replace t4 := t4.below hb
    try replace t5 := t5.below hb
    try replace t6 := t6.below hb
    try replace t7 := t7.below hb
    clear HC0
    have HC0 := CC _ K
    refine hK1 _ _ ⟨fun _ => HC0, ?_⟩
    clear hK1 K1 hb
    try simp only [Act.put, List.setIfInBounds_toArray, List.set_cons_zero, List.set_cons_succ]
    refine wpHl.tk (i := 33) (d := some 158) (v := .bool true) rfl (by as_aux_lemma => kernel_rfl) (by as_aux_lemma => kernel_rfl) (by as_aux_lemma => kernel_rfl) (by as_aux_lemma => kernel_rfl) rfl (fun _ _ _ h => h) (Or.inl ⟨by rfl, ?_⟩) HC0 ?_
    · intro u hC
      go_simp
    simp only [Act.put, List.setIfInBounds_toArray, List.set_cons_zero, List.set_cons_succ]
    refine wpHl.tk (i := 34) (d := some 159) (v := .bool true) rfl (by as_aux_lemma => kernel_rfl) (by as_aux_lemma => kernel_rfl) (by as_aux_lemma => kernel_rfl) (by as_aux_lemma => kernel_rfl) rfl (fun _ _ _ h => h) (Or.inl ⟨by rfl, ?_⟩) HC0 ?_
    · intro u hC
      go_simp
    simp only [Act.put, List.setIfInBounds_toArray, List.set_cons_zero, List.set_cons_succ]
    refine wpHl.one (i := 35) (by as_aux_lemma => kernel_rfl) rfl (fun K1 hK1 => ?_)
    rw [if_pos (by rfl)]
    go_simp
    go_at_call 15
    with_reducible refine (wlives_any).mono ?_
    rintro e wn ⟨rfl, hb⟩
    replace K := below_trans K hb
    try replace t1 := t1.below hb
    try replace t2 := t2.below hb
    try replace t3 := t3.below hb
    try replace t4 := t4.below hb
    try replace t5 := t5.below hb
    try replace t6 := t6.below hb
    try replace t7 := t7.below hb
    clear HC0
    have HC0 := CC _ K
    refine hK1 _ _ ⟨fun _ => HC0, ?_⟩
    clear hK1 K1 hb
    try simp only [Act.put, List.setIfInBounds_toArray, List.set_cons_zero, List.set_cons_succ]
    refine wpHl.tk (i := 36) (d := some 161) (v := .bool true) rfl (by as_aux_lemma => kernel_rfl) (by as_aux_lemma => kernel_rfl) (by as_aux_lemma => kernel_rfl) (by as_aux_lemma => kernel_rfl) rfl (fun _ _ _ h => h) (Or.inl ⟨by rfl, ?_⟩) HC0 ?_
    · intro u hC
      go_simp
    simp only [Act.put, List.setIfInBounds_toArray, List.set_cons_zero, List.set_cons_succ]
    refine wpHl.tk (i := 37) (d := some 6) (v := .bool true) rfl (by as_aux_lemma => kernel_rfl) (by as_aux_lemma => kernel_rfl) (by as_aux_lemma => kernel_rfl) (by as_aux_lemma => kernel_rfl) rfl (fun _ _ _ h => h) (Or.inl ⟨by rfl, ?_⟩) HC0 ?_
    · intro u hC
      go_simp
    simp only [Act.put, List.setIfInBounds_toArray, List.set_cons_zero, List.set_cons_succ]
    refine wpHl.done (by as_aux_lemma => kernel_rfl) ?_ _
    clear CC HC0
    have K9 := hide K
    clear K t1 t2 t3 t4 t5 t6 t7
    go_wp2_with fail
    go_meet
    case rel => exact ⟨rfl, K9.out⟩
  case rest =>
  obtain ⟨rfl, K⟩ := hcut
  rename World => w11
  replace KB := below_trans KB K
  replace h_a := h_a.below K
  replace HC_a := hide (HC_a.out.below K)
  replace h_o := h_o.below K
  replace HC_o := hide (HC_o.out.below K)
  replace h_i := h_i.below K
  replace HC_i := hide (HC_i.out.below K)
  clear K
  go_wp2
  go_ret
  exact ⟨rfl, KB⟩

end Go.Proofs.YtmpdkeafbjibpaaDoor
