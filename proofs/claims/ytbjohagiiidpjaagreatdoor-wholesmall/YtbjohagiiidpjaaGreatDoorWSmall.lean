/- WholeSmall: the walk -/
import Derived.Test.YtbjohagiiidpjaaGreatDoorWLives
import Derived.Test.YtbjohagiiidpjaaGreatDoorWRef
namespace Go.Proofs.YtbjohagiiidpjaaGreatDoor
open Go.RowKit

theorem beyond_w1 {w : World} {g : Nat} {a0 : Option Addr} {l0 c0 : Nat} (hg : g < w.heap.size) (j0 : l0 ≤ 70368744177664) (h0 : w.cell? ⟨g, 1, none⟩ = some (.slice a0 l0 c0)) :
    Calls Tryz.prog 8 #[.slice (some ⟨g, 0, none⟩) 1 1] w fun e w' => e = .returned (.bool (decide (1048576 < 1 + l0))) ∧ Below w.heap.size w w' := by
  refine (wbeyond_any (ls := [l0]) (by simp) (fun i => ?_) hg (fun i hi => ?_)).mono ?_
  · match i with
    | 0 => simpa using j0
    | i + 1 => simp
  · match i, hi with
    | 0, _ => exact ⟨_, _, h0⟩
  · rintro e w' ⟨rfl, hb⟩
    refine ⟨?_, hb⟩
    congr 2
    apply decide_eq_decide.2
    constructor
    · rintro ⟨i, hi, h⟩
      match i, hi, h with
      | 0, _, h => exact h
    · intro h
      rcases h with h
      · exact ⟨0, by simp, h⟩

set_option maxRecDepth 100000 in
set_option maxHeartbeats 16000000 in
theorem wsmall_walk {w : World} {ng_x : Bool} {v_x : Value} {zs_x : List Int} {n : Int} (hn0 : -9223372036854775808 ≤ n) (hn1 : n ≤ 9223372036854775807)
    (r_x : Reads .u32 w v_x zs_x) (o_x : Nt.Ok zs_x) (j_x : zs_x.length ≤ 70368744177664) :
    Calls Tryz.prog 3 #[.agg #[.bool ng_x, v_x], .int .i64 n] w fun e w' => e = .returned (.bool true) ∧ Below w.heap.size w w' := by
  obtain ⟨ao_x, c_x, rfl, ha1_x, ha2_x, ha3_x⟩ := r_x
  have R0_x : Reads .u32 w (.slice ao_x zs_x.length c_x) zs_x := ⟨ao_x, c_x, rfl, ha1_x, ha2_x, ha3_x⟩
  have HR0 := hide R0_x
  clear R0_x
  have KB : Below w.heap.size w ((w.alloc (.cells #[.bool ng_x, .slice ao_x zs_x.length c_x] 25)).alloc (.cells #[.bool ng_x, .slice ao_x zs_x.length c_x] 25)) := (below_trans (bel_alloc _ _) (bel_alloc _ _))
  have z1 : (w.alloc (.cells #[.bool ng_x, .slice ao_x zs_x.length c_x] 25)).heap.size = w.heap.size + 1 := by simp
  have C_x := (cell2_new w (.bool ng_x) (.slice ao_x zs_x.length c_x) 25).alloc (.cells #[.bool ng_x, .slice ao_x zs_x.length c_x] 25)
  have f0 : ((w.alloc (.cells #[.bool ng_x, .slice ao_x zs_x.length c_x] 25)).alloc (.cells #[.bool ng_x, .slice ao_x zs_x.length c_x] 25)).cell? ⟨w.heap.size + 1, 1, none⟩ = some (.slice ao_x zs_x.length c_x) := by rw [World.cell?_alloc_at _ _ _ _ (by rw [z1])]; rfl
  have fz : w.heap.size + 1 < ((w.alloc (.cells #[.bool ng_x, .slice ao_x zs_x.length c_x] 25)).alloc (.cells #[.bool ng_x, .slice ao_x zs_x.length c_x] 25)).heap.size := by simp
  have hbey := beyond_w1 fz j_x f0
  clear fz f0 z1
  by_cases hbig : (1048576 < 1 + zs_x.length)
  · rw [decide_eq_true hbig] at hbey
    have Hbey := hide hbey
    clear hbey hbig
    go_enter Tryz.func3, Tryz.ntmps3
    go_wp2_with fail
    with_reducible refine Hbey.out.mono ?_
    rintro e w1 ⟨rfl, hb⟩
    go_wp2
    go_ret
    exact ⟨rfl, KB.trans (hb.mono KB.size)⟩
  rw [decide_eq_false hbig] at hbey
  have Hbey := hide hbey
  clear hbey
  have hl_x : zs_x.length ≤ 1048576 := by omega
  have h_x : WArg w (.agg #[.bool ng_x, .slice ao_x zs_x.length c_x]) (wn ng_x (Nt.val zs_x)) 1048576 := ⟨_, _, _, rfl, ⟨zs_x, ⟨ao_x, c_x, rfl, ha1_x, ha2_x, ha3_x⟩, o_x, rfl, by omega⟩, rfl⟩
  clear ha1_x ha2_x ha3_x o_x
  generalize wn ng_x (Nt.val zs_x) = N_x at *
  have H0_x := hide h_x
  replace h_x := h_x.below KB
  have HC_x := hide C_x
  clear C_x
  clear hbig
  go_enter Tryz.func3, Tryz.ntmps3
  go_wp2_with fail
  with_reducible refine Hbey.out.mono ?_
  clear Hbey
  rintro e w1 ⟨rfl, hb⟩
  replace KB := KB.trans (hb.mono KB.size)
  replace h_x := h_x.below hb
  replace HC_x := hide (HC_x.out.below hb)
  clear hb
  have p_x := HC_x.out.c0
  have q_x := HC_x.out.c1
  have R_x := HR0.out.below KB
  go_wp2_with fail
  (with_reducible refine (wtwin_any R_x (by omega)).mono ?_)
  rintro e w2 ⟨g_t, rfl, Tw, hb⟩
  clear p_x q_x
  clear R_x
  replace KB := below_trans KB hb
  have h_t := twin_arg3 (H0_x.out) HR0.out Tw
  replace h_x := h_x.below hb
  replace HC_x := hide (HC_x.out.below hb)
  clear hb
  go_upto_region 4 with fail
  have hb := bel_alloc w2 (.cells #[.bool ng_x, .slice (some ⟨g_t, 0, none⟩) zs_x.length (zs_x.length + 1)] 25)
  have C_t := cell2_new w2 (.bool ng_x) (.slice (some ⟨g_t, 0, none⟩) zs_x.length (zs_x.length + 1)) 25
  replace KB := below_trans KB hb
  replace h_t := h_t.below hb
  replace Tw := Tw.below hb
  replace h_x := h_x.below hb
  replace HC_x := hide (HC_x.out.below hb)
  clear hb
  obtain ⟨b_t, eb⟩ : ∃ b, b = w2.heap.size := ⟨_, rfl⟩
  rw [← eb] at C_t ⊢
  clear eb
  generalize w2.alloc (.cells #[.bool ng_x, .slice (some ⟨g_t, 0, none⟩) zs_x.length (zs_x.length + 1)] 25) = w3 at *
  have HC_t := hide C_t
  clear C_t
  have p_t := HC_t.out.c0
  have q_t := HC_t.out.c1
  go_wp2_with fail
  (with_reducible refine (wint64_any h_t (by omega)).mono ?_)
  rintro e w4 ⟨⟨a, ok, rfl, da⟩, hb⟩
  clear p_t q_t
  replace KB := below_trans KB hb
  replace Tw := Tw.below hb
  replace h_x := h_x.below hb
  replace HC_x := hide (HC_x.out.below hb)
  replace h_t := h_t.below hb
  replace HC_t := hide (HC_t.out.below hb)
  clear hb
  have p_t := HC_t.out.c0
  have q_t := HC_t.out.c1
  go_wp2_with fail
  (with_reducible refine (wuint64_any h_t (by omega)).mono ?_)
  rintro e w5 ⟨⟨b, is, rfl, db⟩, hb⟩
  clear p_t q_t
  replace KB := below_trans KB hb
  replace Tw := Tw.below hb
  replace h_x := h_x.below hb
  replace HC_x := hide (HC_x.out.below hb)
  replace h_t := h_t.below hb
  replace HC_t := hide (HC_t.out.below hb)
  clear hb
  have p_x := HC_x.out.c0
  have q_x := HC_x.out.c1
  go_wp2_with fail
  (with_reducible refine (r3int64_any h_x (by omega)).mono ?_)
  rintro e w6 ⟨⟨c, fine, rfl, dc⟩, hb⟩
  clear p_x q_x
  replace KB := below_trans KB hb
  replace Tw := Tw.below hb
  replace h_x := h_x.below hb
  replace HC_x := hide (HC_x.out.below hb)
  replace h_t := h_t.below hb
  replace HC_t := hide (HC_t.out.below hb)
  clear hb
  have p_x := HC_x.out.c0
  have q_x := HC_x.out.c1
  go_wp2_with fail
  (with_reducible refine (r3uint64_any h_x (by omega)).mono ?_)
  rintro e w7 ⟨⟨d, good, rfl, dd⟩, hb⟩
  clear p_x q_x
  replace KB := below_trans KB hb
  replace Tw := Tw.below hb
  replace h_x := h_x.below hb
  replace HC_x := hide (HC_x.out.below hb)
  replace h_t := h_t.below hb
  replace HC_t := hide (HC_t.out.below hb)
  clear hb
  obtain ⟨rfl, rfl⟩ : a = c ∧ ok = fine := by
    rcases da with ⟨rfl, rfl, h1⟩ | ⟨rfl, rfl, h1⟩ <;> rcases dc with ⟨rfl, rfl, h2⟩ | ⟨rfl, rfl, h2⟩ <;> first | exact ⟨rfl, rfl⟩ | exact absurd h1 h2 | exact absurd h2 h1
  obtain ⟨rfl, rfl⟩ : b = d ∧ is = good := by
    rcases db with ⟨rfl, rfl, h1⟩ | ⟨rfl, rfl, h1⟩ <;> rcases dd with ⟨rfl, rfl, h2⟩ | ⟨rfl, rfl, h2⟩ <;> first | exact ⟨rfl, rfl⟩ | exact absurd h1 h2 | exact absurd h2 h1
  clear da db dc dd
  have q1 : (a != a) = false := by simp
  have q2 : (ok != ok) = false := by simp
  have q3 : (b != b) = false := by simp
  have q4 : (is != is) = false := by simp
  have R_x := HR0.out.below KB
  go_upto_region 8 with fail
  have K : Below w7.heap.size w7 w7.drew := (Below.refl _ _).drew
  have p_t := HC_t.out.c0
  have q_t := HC_t.out.c1
  have p_x := HC_x.out.c0
  have q_x := HC_x.out.c1
  go_region_held3 (fun w' => w'.cell? ⟨b_t, 0, none⟩ = some (.bool ng_x) ∧ w'.cell? ⟨b_t, 1, none⟩ = some (.slice (some ⟨g_t, 0, none⟩) zs_x.length (zs_x.length + 1)) ∧ w'.cell? ⟨w.heap.size, 0, none⟩ = some (.bool ng_x) ∧ w'.cell? ⟨w.heap.size, 1, none⟩ = some (.slice ao_x zs_x.length c_x))
    (first
      | with_reducible exact ⟨(HC_t.out.below K).c0, (HC_t.out.below K).c1, (HC_x.out.below K).c0, (HC_x.out.below K).c1⟩
      | exact ⟨(HC_t.out.below (by have ks := K.size; go_grown)).c0, (HC_t.out.below (by have ks := K.size; go_grown)).c1, (HC_x.out.below (by have ks := K.size; go_grown)).c0, (HC_x.out.below (by have ks := K.size; go_grown)).c1⟩
      | go_keep)
    (first
      | (go_at_call 15; first | ((with_reducible refine (wnorm_any (h_t.below K) (by omega)).mono ?_); rintro e wn ⟨v_t1, rfl, t1, hb⟩; replace K := below_trans K hb; (try replace t2 := t2.below hb); clear hb; obtain ⟨ng_t1, ro_t1, rl_t1, rfl⟩ := t1.told))
      | (go_at_call 16; first | ((with_reducible refine (r3norm_any (h_x.below K) (by omega)).mono ?_); rintro e wn ⟨v_t2, rfl, t2, hb⟩; replace K := below_trans K hb; (try replace t1 := t1.below hb); clear hb; obtain ⟨ng_t2, ro_t2, rl_t2, rfl⟩ := t2.told))
      | (go_at_call 14; first | ((with_reducible refine (wsame_any t1 t2 rfl).mono ?_); rintro e wn ⟨rfl, hb⟩; replace K := below_trans K hb; (try replace t1 := t1.below hb); (try replace t2 := t2.below hb); clear hb))
      | (go_at_call 17; first | ((with_reducible refine (wleft_any (Tw.below K) (R_x.below K)).mono ?_); rintro e wn ⟨rfl, hb⟩; replace K := below_trans K hb; (try replace t1 := t1.below hb); (try replace t2 := t2.below hb); clear hb)))
  clear p_t q_t p_x q_x
  replace KB := below_trans KB K
  clear K
  go_wp2_with fail
  (with_reducible refine (wfrom_any hn0 hn1).mono ?_)
  rintro e w9 ⟨v1, rfl, h1, hb1⟩
  go_wp2_with fail
  (with_reducible refine (r3from_any hn0 hn1).mono ?_)
  rintro e w10 ⟨v2, rfl, h2, hb2⟩
  go_wp2_with fail
  (with_reducible refine (wsame_any (h1.below hb2) h2 rfl).mono ?_)
  rintro e w11 ⟨rfl, hb3⟩
  go_wp2_with fail
  (with_reducible refine wlives_any.mono ?_)
  rintro e w12 ⟨rfl, hb4⟩
  replace KB := below_trans (below_trans (below_trans (below_trans KB hb1) hb2) hb3) hb4
  clear hb1 hb2 hb3 hb4 h1 h2
  go_wp2
  go_ret
  exact ⟨rfl, KB⟩

theorem wsmall_wf {w : World} {ng_x : Bool} {v_x : Value} {zs_x : List Int} {n : Int} (r_x : Reads .u32 w v_x zs_x) (o_x : Nt.Ok zs_x) (j_x : zs_x.length ≤ 70368744177664) (hw : (Lit.int .i64 n).wf = true) :
    Calls Tryz.prog 3 #[.agg #[.bool ng_x, v_x], .int .i64 n] w fun e w' => e = .returned (.bool true) ∧ Below w.heap.size w w' := by
  have h1 : -9223372036854775808 ≤ n ∧ n ≤ 9223372036854775807 := by simpa [Lit.wf, IntKind.min, IntKind.max, IntKind.signed, IntKind.bits] using hw
  exact wsmall_walk h1.1 h1.2 r_x o_x j_x

end Go.Proofs.YtbjohagiiidpjaaGreatDoor
