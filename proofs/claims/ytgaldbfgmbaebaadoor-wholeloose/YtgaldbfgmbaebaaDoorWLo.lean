/- WholeLoose: the walk -/
import Derived.Test.YtgaldbfgmbaebaaDoorWLo0
namespace Go.Proofs.YtgaldbfgmbaebaaDoor
open Go.RowKit

theorem beyond_w2 {w : World} {g : Nat} {a0 a1 : Option Addr} {l0 c0 l1 c1 : Nat} (hg : g < w.heap.size) (j0 : l0 ≤ 70368744177664) (j1 : l1 ≤ 70368744177664) (h0 : w.cell? ⟨g, 1, none⟩ = some (.slice a0 l0 c0)) (h1 : w.cell? ⟨g, 3, none⟩ = some (.slice a1 l1 c1)) :
    Calls Tryd.prog 17 #[.slice (some ⟨g, 0, none⟩) 2 2] w fun e w' => e = .returned (.bool (decide (1048576 < 1 + l0 ∨ 1048576 < 1 + l1))) ∧ Below w.heap.size w w' := by
  refine (wbeyond_any (ls := [l0, l1]) (by simp) (fun i => ?_) hg (fun i hi => ?_)).mono ?_
  · match i with
    | 0 => simpa using j0
    | 1 => simpa using j1
    | i + 2 => simp
  · match i, hi with
    | 0, _ => exact ⟨_, _, h0⟩
    | 1, _ => exact ⟨_, _, h1⟩
  · rintro e w' ⟨rfl, hb⟩
    refine ⟨?_, hb⟩
    congr 2
    apply decide_eq_decide.2
    constructor
    · rintro ⟨i, hi, h⟩
      match i, hi, h with
      | 0, _, h => exact Or.inl h
      | 1, _, h => exact Or.inr (h)
    · intro h
      rcases h with h | h
      · exact ⟨0, by simp, h⟩
      · exact ⟨1, by simp, h⟩

set_option maxRecDepth 100000 in
set_option maxHeartbeats 16000000 in
theorem wloose_walk {w : World} {ng_x : Bool} {v_x : Value} {zs_x : List Int} {ng_y : Bool} {v_y : Value} {zs_y : List Int} {d : Int} (hd0 : 0 ≤ d) (hd1 : d < 256)
    (r_x : Reads .u32 w v_x zs_x) (o_x : Nt.Ok zs_x) (j_x : zs_x.length ≤ 70368744177664) (r_y : Reads .u32 w v_y zs_y) (o_y : Nt.Ok zs_y) (j_y : zs_y.length ≤ 70368744177664) :
    Calls Tryd.prog 6 #[.agg #[.bool ng_x, v_x], .agg #[.bool ng_y, v_y], .int .u8 d] w fun e w' => e = .returned (.bool true) ∧ Below w.heap.size w w' := by
  obtain ⟨ao_x, c_x, rfl, ha1_x, ha2_x, ha3_x⟩ := r_x
  obtain ⟨ao_y, c_y, rfl, ha1_y, ha2_y, ha3_y⟩ := r_y
  have KB : Below w.heap.size w (((w.alloc (.cells #[.bool ng_x, .slice ao_x zs_x.length c_x] 38)).alloc (.cells #[.bool ng_y, .slice ao_y zs_y.length c_y] 38)).alloc (.cells #[.bool ng_x, .slice ao_x zs_x.length c_x, .bool ng_y, .slice ao_y zs_y.length c_y] 38)) := (below_trans (below_trans (bel_alloc _ _) (bel_alloc _ _)) (bel_alloc _ _))
  have z1 : (w.alloc (.cells #[.bool ng_x, .slice ao_x zs_x.length c_x] 38)).heap.size = w.heap.size + 1 := by simp
  have z2 : ((w.alloc (.cells #[.bool ng_x, .slice ao_x zs_x.length c_x] 38)).alloc (.cells #[.bool ng_y, .slice ao_y zs_y.length c_y] 38)).heap.size = w.heap.size + 2 := by simp
  have C_x := ((cell2_new w (.bool ng_x) (.slice ao_x zs_x.length c_x) 38).alloc (.cells #[.bool ng_y, .slice ao_y zs_y.length c_y] 38)).alloc (.cells #[.bool ng_x, .slice ao_x zs_x.length c_x, .bool ng_y, .slice ao_y zs_y.length c_y] 38)
  have C_y := (cell2_new (w.alloc (.cells #[.bool ng_x, .slice ao_x zs_x.length c_x] 38)) (.bool ng_y) (.slice ao_y zs_y.length c_y) 38).alloc (.cells #[.bool ng_x, .slice ao_x zs_x.length c_x, .bool ng_y, .slice ao_y zs_y.length c_y] 38)
  rw [z1] at C_y
  have f0 : (((w.alloc (.cells #[.bool ng_x, .slice ao_x zs_x.length c_x] 38)).alloc (.cells #[.bool ng_y, .slice ao_y zs_y.length c_y] 38)).alloc (.cells #[.bool ng_x, .slice ao_x zs_x.length c_x, .bool ng_y, .slice ao_y zs_y.length c_y] 38)).cell? ⟨w.heap.size + 2, 1, none⟩ = some (.slice ao_x zs_x.length c_x) := by rw [World.cell?_alloc_at _ _ _ _ (by rw [z2])]; rfl
  have f1 : (((w.alloc (.cells #[.bool ng_x, .slice ao_x zs_x.length c_x] 38)).alloc (.cells #[.bool ng_y, .slice ao_y zs_y.length c_y] 38)).alloc (.cells #[.bool ng_x, .slice ao_x zs_x.length c_x, .bool ng_y, .slice ao_y zs_y.length c_y] 38)).cell? ⟨w.heap.size + 2, 3, none⟩ = some (.slice ao_y zs_y.length c_y) := by rw [World.cell?_alloc_at _ _ _ _ (by rw [z2])]; rfl
  have fz : w.heap.size + 2 < (((w.alloc (.cells #[.bool ng_x, .slice ao_x zs_x.length c_x] 38)).alloc (.cells #[.bool ng_y, .slice ao_y zs_y.length c_y] 38)).alloc (.cells #[.bool ng_x, .slice ao_x zs_x.length c_x, .bool ng_y, .slice ao_y zs_y.length c_y] 38)).heap.size := by simp
  have hbey := beyond_w2 fz j_x j_y f0 f1
  clear fz f0 f1 z1 z2
  by_cases hbig : (1048576 < 1 + zs_x.length ∨ 1048576 < 1 + zs_y.length)
  · rw [decide_eq_true hbig] at hbey
    have Hbey := hide hbey
    clear hbey hbig
    go_enter Tryd.func6, Tryd.ntmps6
    go_wp2_with fail
    with_reducible refine Hbey.out.mono ?_
    rintro e w1 ⟨rfl, hb⟩
    go_wp2
    go_ret
    exact ⟨rfl, KB.trans (hb.mono KB.size)⟩
  rw [decide_eq_false hbig] at hbey
  have Hbey := hide hbey
  clear hbey
  have hl_x : zs_x.length ≤ 1048576 := by omega
  have h_x : WArg w (.agg #[.bool ng_x, .slice ao_x zs_x.length c_x]) (wn ng_x (Nt.val zs_x)) 1048576 := ⟨_, _, _, rfl, ⟨zs_x, ⟨ao_x, c_x, rfl, ha1_x, ha2_x, ha3_x⟩, o_x, rfl, by omega⟩, rfl⟩
  clear ha1_x ha2_x ha3_x o_x
  generalize wn ng_x (Nt.val zs_x) = N_x at *
  have H0_x := hide h_x
  replace h_x := h_x.below KB
  have HC_x := hide C_x
  clear C_x
  have hl_y : zs_y.length ≤ 1048576 := by omega
  have h_y : WArg w (.agg #[.bool ng_y, .slice ao_y zs_y.length c_y]) (wn ng_y (Nt.val zs_y)) 1048576 := ⟨_, _, _, rfl, ⟨zs_y, ⟨ao_y, c_y, rfl, ha1_y, ha2_y, ha3_y⟩, o_y, rfl, by omega⟩, rfl⟩
  clear ha1_y ha2_y ha3_y o_y
  generalize wn ng_y (Nt.val zs_y) = N_y at *
  have H0_y := hide h_y
  replace h_y := h_y.below KB
  have HC_y := hide C_y
  clear C_y
  clear hbig
  go_enter Tryd.func6, Tryd.ntmps6
  go_wp2_with fail
  with_reducible refine Hbey.out.mono ?_
  clear Hbey
  rintro e w1 ⟨rfl, hb⟩
  replace KB := KB.trans (hb.mono KB.size)
  replace h_x := h_x.below hb
  replace HC_x := hide (HC_x.out.below hb)
  replace h_y := h_y.below hb
  replace HC_y := hide (HC_y.out.below hb)
  clear hb
  have p_x := HC_x.out.c0
  have q_x := HC_x.out.c1
  go_wp2_with fail
  with_reducible refine (wnorm_any h_x (by omega)).mono ?_
  rintro e w2 ⟨v_a, rfl, h_a, hb⟩
  clear p_x q_x
  replace KB := below_trans KB hb
  replace h_x := h_x.below hb
  replace HC_x := hide (HC_x.out.below hb)
  replace h_y := h_y.below hb
  replace HC_y := hide (HC_y.out.below hb)
  clear hb
  obtain ⟨ng_a, ro_a, rl_a, rfl⟩ := h_a.told
  go_upto_region 4 with fail
  have hb : Below w2.heap.size w2 (w2.alloc (.cells #[.bool ng_a, .slice ro_a rl_a rl_a] 38)) := (bel_alloc _ _)
  obtain ⟨b_a, eb⟩ : ∃ b, b = w2.heap.size := ⟨_, rfl⟩
  have C_a := cell2_new w2 (.bool ng_a) (.slice ro_a rl_a rl_a) 38
  replace KB := below_trans KB hb
  replace h_a := h_a.below hb
  replace h_x := h_x.below hb
  replace HC_x := hide (HC_x.out.below hb)
  replace h_y := h_y.below hb
  replace HC_y := hide (HC_y.out.below hb)
  clear hb
  rw [← eb] at C_a ⊢
  clear eb
  generalize (w2.alloc (.cells #[.bool ng_a, .slice ro_a rl_a rl_a] 38)) = w3 at *
  have HC_a := hide C_a
  clear C_a
  obtain ⟨m, hm⟩ : ∃ m : Nat, d % 5 = (m : Int) := ⟨(d % 5).toNat, by omega⟩
  have hm4 : m ≤ 4 := by omega
  have ht5 : d.tmod 5 = (m : Int) := by rw [Int.tmod_eq_emod_of_nonneg hd0, hm]
  have hwr : IntKind.i64.wrap d = d := by rw [IntKind.wrap_i64]; omega
  obtain ⟨xs, hxs⟩ : ∃ xs, Made .u32 26 0 w3 (.slice ro_a rl_a rl_a) xs ∧ Nt.Ok xs ∧ xs.length ≤ 1048576 ∧ N_x = wn ng_a (Nt.val xs) := by
    obtain ⟨ng, mm, v, e, ⟨xs, h1, h2, h3, h4⟩, h5, -⟩ := h_a.low (Nat.zero_le _)
    simp at e
    obtain ⟨rfl, rfl⟩ := e
    exact ⟨xs, h1, h2.1, h4, by rw [h3]; exact h5⟩
  have HXS := hide hxs
  have hrl : rl_a = xs.length := by
    obtain ⟨ao, e, -⟩ := hxs.1
    simp at e
    exact e.2
  have hxl : xs.length ≤ 1048576 := hxs.2.2.1
  have hcel : Cells .u32 w3 ro_a xs := by
    obtain ⟨ao, cap, e, h1, h2, h3⟩ := hxs.1.reads
    simp at e
    obtain ⟨rfl, -⟩ := e
    exact h3
  have HCE := hide hcel
  have HRL := hide hrl
  clear hxs hcel hrl
  go_cut [8] from 29 (fun s8 w' => ∃ b_b v_b, s8 = .pointer (some ⟨b_b, 0, none⟩) ∧ Cell2 w' b_b (.bool ng_a) v_b ∧ Loose w' v_b (xs ++ List.replicate m 0) ∧ w3.heap.size ≤ b_b ∧ Below w3.heap.size w3 w')
  case first =>
    have K : Below w3.heap.size w3 w3.drew := (Below.refl _ _).drew
    have p_a := HC_a.out.c0
    have q_a := HC_a.out.c1
    go_region_held3 (fun w' => w'.cell? ⟨b_a, 0, none⟩ = some (.bool ng_a) ∧ w'.cell? ⟨b_a, 1, none⟩ = some (.slice ro_a rl_a rl_a))
      (first
        | with_reducible exact ⟨(HC_a.out.below K).c0, (HC_a.out.below K).c1⟩
        | exact ⟨(HC_a.out.below (by have ks := K.size; go_grown)).c0, (HC_a.out.below (by have ks := K.size; go_grown)).c1⟩)
      (first
        | ((refine step_append_any rfl (.tmp 31) (.tmp 33) 23 rfl w3.heap.size 26 .u32 4 Tryd.underlying23 Tryd.infoU32 _ 0 [] (by rfl) (by first | exact own_new0 (Nat.le_refl _) | exact own_new0 (by go_grown) | exact (own_new0 (Nat.le_refl _)).alloc _ | exact (own_new0 (by go_grown)).alloc _ | exact own_new0' (by simp) (by omega)) ro_a rl_a rl_a xs (by rfl) HRL.out (HCE.out.below (by have ks := K.size; go_grown)) (by unfold maxLen; omega) (by omega) (by first | go_grown | simp | (simp; omega)) ?_); intro v1 y1 ho1 hg1; (first | (have Z1 : ZI y1 (w3.heap.size + 1) := ZI.own (B := w3.heap.size) (by exact zi_new' (by simp)) (by first | exact own_new0 (Nat.le_refl _) | exact own_new0 (by go_grown) | exact (own_new0 (Nat.le_refl _)).alloc _ | exact (own_new0 (by go_grown)).alloc _ | exact own_new0' (by simp) (by omega)) hg1) | (have Z1 : ZI y1 w3.heap.size := ZI.own (B := w3.heap.size) (by exact (zi_new' (by simp)).alloc _) (by first | exact own_new0 (Nat.le_refl _) | exact own_new0 (by go_grown) | exact (own_new0 (Nat.le_refl _)).alloc _ | exact (own_new0 (by go_grown)).alloc _ | exact own_new0' (by simp) (by omega)) hg1) | skip); replace K := own_grown (B := w3.heap.size) (w0 := w3) (by have ks := K.size; go_grown) (by first | go_grown | simp | (simp; omega)) (by first | exact own_new0 (Nat.le_refl _) | exact own_new0 (by go_grown) | exact (own_new0 (Nat.le_refl _)).alloc _ | exact (own_new0 (by go_grown)).alloc _ | exact own_new0' (by simp) (by omega)) hg1; (try simp only [Nat.zero_add, List.nil_append] at ho1); clear hg1; have ks1 := K.size)
        | ((refine step_append_zeros rfl (.tmp 34) (.tmp 37) 23 3 rfl w3.heap.size 26 .i64 .u32 4 Tryd.underlying23 Tryd.underlying3 Tryd.infoU32 v1 xs.length _ (by rfl) (by first | exact ho1 | exact ho1.alloc _) m _ (by rfl) (by first | rfl | omega | (rw [hwr]; omega)) (by unfold maxLen; omega) (by omega) (by first | exact ks1 | (simp; omega)) ?_); intro v2 y2 ho2 hg2; (try have Z2 := ZI.own (B := w3.heap.size) (by first | exact Z1 | exact zi_new _) (by first | exact ho1 | exact ho1.alloc _) hg2); replace K := own_grown (B := w3.heap.size) (w0 := w3) (by have ks := K.size; go_grown) (by first | exact ks1 | (simp; omega)) (by first | exact ho1 | exact ho1.alloc _) hg2; clear hg2; have ks2 := K.size; (try (have z := Z2.cell2; have z0 := z.c0; have z1 := z.c1; have z2 := z.f0; have z3 := z.f1; have z4 := z.lt; clear z)); have LO : Loose y2 v2 (xs ++ List.replicate m 0) := loose_owns (n := xs.length + m) (by simpa using ho2); obtain ⟨ao2, c2, e2⟩ := LO.shape; rw [len_noughts] at e2; subst e2))
    all_goals go_wp2_with fail
    all_goals go_meet
    all_goals first
      | exact ⟨_, _, rfl, cell2_new _ _ _ _, LO.below (bel_alloc _ _), ks2, below_trans K (bel_alloc _ _)⟩
      | exact ⟨_, _, rfl, Z2.cell2.put _ _, LO.put Z2.cell2 _ _, by first | exact Nat.le_refl _ | exact ks1 | omega, below_put2 K (by first | exact Nat.le_refl _ | exact ks1 | omega) _ _⟩
  case rest =>
  obtain ⟨b_b, v_b, rfl, C_b, L_b, ge_b, K⟩ := hcut
  rename World => w4
  obtain ⟨ro_b, c_b, e_b⟩ := L_b.shape
  rw [len_noughts] at e_b
  subst e_b
  have C_a := HC_a.out.below K
  have p_a := C_a.c0
  have q_a := C_a.c1
  go_upto_if 43 with fail
  go_cut [] from 44 (fun w' => ∃ ng_b, Cell2 w' b_b (.bool ng_b) (.slice ro_b (xs.length + m) c_b) ∧ WArg w' (.agg #[.bool ng_b, .slice ro_b (xs.length + m) c_b]) N_x 1048580 ∧ Below w3.heap.size w3 w')
  case first =>
    by_cases hz : rl_a = 0
    · have hv0 : ∀ ng, N_x = wn ng (Nt.val xs) := by
        have e0 : xs = [] := List.eq_nil_of_length_eq_zero (by rw [← HRL.out]; exact hz)
        intro ng
        rw [HXS.out.2.2.2, e0]
        cases ng <;> cases ng_a <;> rfl
      have HV := hide hv0
      have e1 : ((rl_a : Int) == 0) = true := by simp [hz]
      have e2 : decide ((rl_a : Int) = 0) = true := by simp [hz]
      have c0 := C_b.c0
      have f0 := C_b.f0
      clear hv0 hz
      go_wp2_with fail
      go_meet
      exact ⟨_, C_b.set0 _, loose_arg (k := 1048576) (L_b.set C_b.c0 _) HXS.out.2.1 hxl hm4 (HV.out _), K.setCell (p := ⟨b_b, 0, none⟩) ge_b _⟩
    · have e1 : ((rl_a : Int) == 0) = false := by simp [hz]
      have e2 : decide ((rl_a : Int) = 0) = false := by simp [hz]
      clear hz
      go_wp2_with fail
      go_meet
      exact ⟨_, C_b, loose_arg (k := 1048576) L_b HXS.out.2.1 hxl hm4 HXS.out.2.2.2, K⟩
  case rest =>
  clear p_a q_a C_a C_b L_b K
  obtain ⟨ng_b, C_b, h_b, K⟩ := hcut
  rename World => w5
  replace KB := below_trans KB K
  replace h_x := h_x.below K
  replace HC_x := hide (HC_x.out.below K)
  replace h_y := h_y.below K
  replace HC_y := hide (HC_y.out.below K)
  replace h_a := h_a.below K
  replace HC_a := hide (HC_a.out.below K)
  have HC_b := hide C_b
  clear C_b K ge_b HXS HCE HRL ht5 hwr hm hm4 hxl hd0 hd1
  obtain ⟨ok, hok⟩ : ∃ ok, ok = decide (N_y ≠ 0) := ⟨_, rfl⟩
  have HOK := hide hok
  clear hok
  have p_a := HC_a.out.c0
  have q_a := HC_a.out.c1
  have p_y := HC_y.out.c0
  have q_y := HC_y.out.c1
  go_wp2_with fail
  with_reducible refine (wquo_all h_a.arg (by omega) h_y.arg (by omega) HOK.out).mono ?_
  rintro e w6 ⟨v_q, v_r, rfl, h_q, h_r, hb⟩
  clear p_a q_a p_y q_y
  replace KB := below_trans KB hb
  replace h_x := h_x.below hb
  replace HC_x := hide (HC_x.out.below hb)
  replace h_y := h_y.below hb
  replace HC_y := hide (HC_y.out.below hb)
  replace h_a := h_a.below hb
  replace HC_a := hide (HC_a.out.below hb)
  replace h_b := h_b.below hb
  replace HC_b := hide (HC_b.out.below hb)
  clear hb
  obtain ⟨ng_q, ro_q, rl_q, rfl⟩ := h_q.told
  obtain ⟨ng_r, ro_r, rl_r, rfl⟩ := h_r.told
  go_upto_region 8 with fail
  have hb : Below w6.heap.size w6 ((w6.alloc (.cells #[.bool ng_q, .slice ro_q rl_q rl_q] 38)).alloc (.cells #[.bool ng_r, .slice ro_r rl_r rl_r] 38)) := (below_trans (bel_alloc _ _) (bel_alloc _ _))
  obtain ⟨b_q, eb⟩ : ∃ b, b = w6.heap.size := ⟨_, rfl⟩
  have z1 : (w6.alloc (.cells #[.bool ng_q, .slice ro_q rl_q rl_q] 38)).heap.size = w6.heap.size + 1 := by simp
  have C_q := (cell2_new w6 (.bool ng_q) (.slice ro_q rl_q rl_q) 38).alloc (.cells #[.bool ng_r, .slice ro_r rl_r rl_r] 38)
  have C_r := cell2_new (w6.alloc (.cells #[.bool ng_q, .slice ro_q rl_q rl_q] 38)) (.bool ng_r) (.slice ro_r rl_r rl_r) 38
  rw [z1] at C_r
  clear z1
  replace KB := below_trans KB hb
  replace h_q := h_q.below hb
  replace h_r := h_r.below hb
  replace h_x := h_x.below hb
  replace HC_x := hide (HC_x.out.below hb)
  replace h_y := h_y.below hb
  replace HC_y := hide (HC_y.out.below hb)
  replace h_a := h_a.below hb
  replace HC_a := hide (HC_a.out.below hb)
  replace h_b := h_b.below hb
  replace HC_b := hide (HC_b.out.below hb)
  clear hb
  rw [← eb] at C_q C_r ⊢
  clear eb
  generalize ((w6.alloc (.cells #[.bool ng_q, .slice ro_q rl_q rl_q] 38)).alloc (.cells #[.bool ng_r, .slice ro_r rl_r rl_r] 38)) = w7 at *
  have HC_q := hide C_q
  clear C_q
  have HC_r := hide C_r
  clear C_r
  have p_b := HC_b.out.c0
  have q_b := HC_b.out.c1
  have p_y := HC_y.out.c0
  have q_y := HC_y.out.c1
  go_wp2_with fail
  with_reducible refine (wquo_all h_b.arg (by omega) h_y.arg (by omega) HOK.out).mono ?_
  rintro e w8 ⟨v_s, v_t, rfl, h_s, h_t, hb⟩
  clear p_b q_b p_y q_y
  replace KB := below_trans KB hb
  replace h_x := h_x.below hb
  replace HC_x := hide (HC_x.out.below hb)
  replace h_y := h_y.below hb
  replace HC_y := hide (HC_y.out.below hb)
  replace h_a := h_a.below hb
  replace HC_a := hide (HC_a.out.below hb)
  replace h_b := h_b.below hb
  replace HC_b := hide (HC_b.out.below hb)
  replace h_q := h_q.below hb
  replace HC_q := hide (HC_q.out.below hb)
  replace h_r := h_r.below hb
  replace HC_r := hide (HC_r.out.below hb)
  clear hb
  obtain ⟨ng_s, ro_s, rl_s, rfl⟩ := h_s.told
  obtain ⟨ng_t, ro_t, rl_t, rfl⟩ := h_t.told
  go_upto_region 9 with fail
  have hb : Below w8.heap.size w8 ((w8.alloc (.cells #[.bool ng_s, .slice ro_s rl_s rl_s] 38)).alloc (.cells #[.bool ng_t, .slice ro_t rl_t rl_t] 38)) := (below_trans (bel_alloc _ _) (bel_alloc _ _))
  obtain ⟨b_s, eb⟩ : ∃ b, b = w8.heap.size := ⟨_, rfl⟩
  have z1 : (w8.alloc (.cells #[.bool ng_s, .slice ro_s rl_s rl_s] 38)).heap.size = w8.heap.size + 1 := by simp
  have C_s := (cell2_new w8 (.bool ng_s) (.slice ro_s rl_s rl_s) 38).alloc (.cells #[.bool ng_t, .slice ro_t rl_t rl_t] 38)
  have C_t := cell2_new (w8.alloc (.cells #[.bool ng_s, .slice ro_s rl_s rl_s] 38)) (.bool ng_t) (.slice ro_t rl_t rl_t) 38
  rw [z1] at C_t
  clear z1
  replace KB := below_trans KB hb
  replace h_s := h_s.below hb
  replace h_t := h_t.below hb
  replace h_x := h_x.below hb
  replace HC_x := hide (HC_x.out.below hb)
  replace h_y := h_y.below hb
  replace HC_y := hide (HC_y.out.below hb)
  replace h_a := h_a.below hb
  replace HC_a := hide (HC_a.out.below hb)
  replace h_b := h_b.below hb
  replace HC_b := hide (HC_b.out.below hb)
  replace h_q := h_q.below hb
  replace HC_q := hide (HC_q.out.below hb)
  replace h_r := h_r.below hb
  replace HC_r := hide (HC_r.out.below hb)
  clear hb
  rw [← eb] at C_s C_t ⊢
  clear eb
  generalize ((w8.alloc (.cells #[.bool ng_s, .slice ro_s rl_s rl_s] 38)).alloc (.cells #[.bool ng_t, .slice ro_t rl_t rl_t] 38)) = w9 at *
  have HC_s := hide C_s
  clear C_s
  have HC_t := hide C_t
  clear C_t
  have p_a := HC_a.out.c0
  have q_a := HC_a.out.c1
  go_wp2_with fail
  with_reducible refine (twos_t h_a.arg (by omega)).mono ?_
  rintro e w10 ⟨tx, tb, rfl, htw, hb⟩
  clear p_a q_a
  replace KB := below_trans KB hb
  replace h_x := h_x.below hb
  replace HC_x := hide (HC_x.out.below hb)
  replace h_y := h_y.below hb
  replace HC_y := hide (HC_y.out.below hb)
  replace h_a := h_a.below hb
  replace HC_a := hide (HC_a.out.below hb)
  replace h_b := h_b.below hb
  replace HC_b := hide (HC_b.out.below hb)
  replace h_q := h_q.below hb
  replace HC_q := hide (HC_q.out.below hb)
  replace h_r := h_r.below hb
  replace HC_r := hide (HC_r.out.below hb)
  replace h_s := h_s.below hb
  replace HC_s := hide (HC_s.out.below hb)
  replace h_t := h_t.below hb
  replace HC_t := hide (HC_t.out.below hb)
  clear hb
  have HTW := hide htw
  clear htw
  have p_b := HC_b.out.c0
  have q_b := HC_b.out.c1
  go_wp2_with fail
  with_reducible refine (twos_t2 HTW.out h_b.arg (by omega)).mono ?_
  rintro e w11 ⟨rfl, hb⟩
  clear p_b q_b
  replace KB := below_trans KB hb
  replace h_x := h_x.below hb
  replace HC_x := hide (HC_x.out.below hb)
  replace h_y := h_y.below hb
  replace HC_y := hide (HC_y.out.below hb)
  replace h_a := h_a.below hb
  replace HC_a := hide (HC_a.out.below hb)
  replace h_b := h_b.below hb
  replace HC_b := hide (HC_b.out.below hb)
  replace h_q := h_q.below hb
  replace HC_q := hide (HC_q.out.below hb)
  replace h_r := h_r.below hb
  replace HC_r := hide (HC_r.out.below hb)
  replace h_s := h_s.below hb
  replace HC_s := hide (HC_s.out.below hb)
  replace h_t := h_t.below hb
  replace HC_t := hide (HC_t.out.below hb)
  clear hb
  have p_a := HC_a.out.c0
  have q_a := HC_a.out.c1
  go_wp2_with fail
  with_reducible refine (i64_t h_a.arg (by omega)).mono ?_
  rintro e w12 ⟨iy, ib, rfl, hi6, hb⟩
  clear p_a q_a
  replace KB := below_trans KB hb
  replace h_x := h_x.below hb
  replace HC_x := hide (HC_x.out.below hb)
  replace h_y := h_y.below hb
  replace HC_y := hide (HC_y.out.below hb)
  replace h_a := h_a.below hb
  replace HC_a := hide (HC_a.out.below hb)
  replace h_b := h_b.below hb
  replace HC_b := hide (HC_b.out.below hb)
  replace h_q := h_q.below hb
  replace HC_q := hide (HC_q.out.below hb)
  replace h_r := h_r.below hb
  replace HC_r := hide (HC_r.out.below hb)
  replace h_s := h_s.below hb
  replace HC_s := hide (HC_s.out.below hb)
  replace h_t := h_t.below hb
  replace HC_t := hide (HC_t.out.below hb)
  clear hb
  have HI6 := hide hi6
  clear hi6
  have p_b := HC_b.out.c0
  have q_b := HC_b.out.c1
  go_wp2_with fail
  with_reducible refine (i64_t2 HI6.out h_b.arg (by omega)).mono ?_
  rintro e w13 ⟨rfl, hb⟩
  clear p_b q_b
  replace KB := below_trans KB hb
  replace h_x := h_x.below hb
  replace HC_x := hide (HC_x.out.below hb)
  replace h_y := h_y.below hb
  replace HC_y := hide (HC_y.out.below hb)
  replace h_a := h_a.below hb
  replace HC_a := hide (HC_a.out.below hb)
  replace h_b := h_b.below hb
  replace HC_b := hide (HC_b.out.below hb)
  replace h_q := h_q.below hb
  replace HC_q := hide (HC_q.out.below hb)
  replace h_r := h_r.below hb
  replace HC_r := hide (HC_r.out.below hb)
  replace h_s := h_s.below hb
  replace HC_s := hide (HC_s.out.below hb)
  replace h_t := h_t.below hb
  replace HC_t := hide (HC_t.out.below hb)
  clear hb
  have hsg : sgn N_x N_x = 0 := sgn_eq rfl
  have HSG := hide hsg
  clear hsg
  go_upto_region 13 with fail
  have K : Below w13.heap.size w13 w13.drew := (Below.refl _ _).drew
  have p_q := HC_q.out.c0
  have q_q := HC_q.out.c1
  have p_s := HC_s.out.c0
  have q_s := HC_s.out.c1
  have p_r := HC_r.out.c0
  have q_r := HC_r.out.c1
  have p_t := HC_t.out.c0
  have q_t := HC_t.out.c1
  have p_a := HC_a.out.c0
  have q_a := HC_a.out.c1
  have p_b := HC_b.out.c0
  have q_b := HC_b.out.c1
  go_region_held3 (fun w' => w'.cell? ⟨b_q, 0, none⟩ = some (.bool ng_q) ∧ w'.cell? ⟨b_q, 1, none⟩ = some (.slice ro_q rl_q rl_q) ∧ w'.cell? ⟨b_s, 0, none⟩ = some (.bool ng_s) ∧ w'.cell? ⟨b_s, 1, none⟩ = some (.slice ro_s rl_s rl_s) ∧ w'.cell? ⟨b_q + 1, 0, none⟩ = some (.bool ng_r) ∧ w'.cell? ⟨b_q + 1, 1, none⟩ = some (.slice ro_r rl_r rl_r) ∧ w'.cell? ⟨b_s + 1, 0, none⟩ = some (.bool ng_t) ∧ w'.cell? ⟨b_s + 1, 1, none⟩ = some (.slice ro_t rl_t rl_t) ∧ w'.cell? ⟨b_a, 0, none⟩ = some (.bool ng_a) ∧ w'.cell? ⟨b_a, 1, none⟩ = some (.slice ro_a rl_a rl_a) ∧ w'.cell? ⟨b_b, 0, none⟩ = some (.bool ng_b) ∧ w'.cell? ⟨b_b, 1, none⟩ = some (.slice ro_b (xs.length + m) c_b))
    (first
      | with_reducible exact ⟨(HC_q.out.below K).c0, (HC_q.out.below K).c1, (HC_s.out.below K).c0, (HC_s.out.below K).c1, (HC_r.out.below K).c0, (HC_r.out.below K).c1, (HC_t.out.below K).c0, (HC_t.out.below K).c1, (HC_a.out.below K).c0, (HC_a.out.below K).c1, (HC_b.out.below K).c0, (HC_b.out.below K).c1⟩
      | go_keep)
    (first
      | (go_at_call 24; first | ((with_reducible refine (wsame_any (h_q.below K) (h_s.below K) rfl).mono ?_); rintro e wn ⟨rfl, hb⟩; replace K := below_trans K hb; clear hb) | ((with_reducible refine (wsame_any (h_r.below K) (h_t.below K) rfl).mono ?_); rintro e wn ⟨rfl, hb⟩; replace K := below_trans K hb; clear hb))
      | (go_at_call 27; ((with_reducible refine (wcmp_told HSG.out (h_a.arg.below K) (h_b.arg.below K) (by omega) (by omega)).mono ?_); rintro e wn ⟨rfl, hb⟩; replace K := below_trans K hb; clear hb))
      | (go_at_call 21; first | ((with_reducible refine (show_t2 HSH.out (h_b.arg.below K) (by omega)).mono ?_); rintro e wn ⟨rfl, hb⟩; replace K := below_trans K hb; clear hb) | ((with_reducible refine (show_t (h_a.arg.below K) (by omega)).mono ?_); rintro e wn ⟨sx, rfl, hsh, hb⟩; have HSH := hide hsh; clear hsh; replace K := below_trans K hb; clear hb)))
  clear p_q q_q p_s q_s p_r q_r p_t q_t p_a q_a p_b q_b
  rename World => w14
  replace KB := below_trans KB K
  replace h_x := h_x.below K
  replace HC_x := hide (HC_x.out.below K)
  replace h_y := h_y.below K
  replace HC_y := hide (HC_y.out.below K)
  replace h_a := h_a.below K
  replace HC_a := hide (HC_a.out.below K)
  replace h_b := h_b.below K
  replace HC_b := hide (HC_b.out.below K)
  replace h_q := h_q.below K
  replace HC_q := hide (HC_q.out.below K)
  replace h_r := h_r.below K
  replace HC_r := hide (HC_r.out.below K)
  replace h_s := h_s.below K
  replace HC_s := hide (HC_s.out.below K)
  replace h_t := h_t.below K
  replace HC_t := hide (HC_t.out.below K)
  clear K 
  clear HTW HI6 HSG
  clear h_q HC_q
  clear h_r HC_r
  clear h_s HC_s
  clear h_t HC_t
  go_upto_region 15 with fail
  have K : Below w14.heap.size w14 w14.drew := (Below.refl _ _).drew
  have p_b := HC_b.out.c0
  have q_b := HC_b.out.c1
  have p_a := HC_a.out.c0
  have q_a := HC_a.out.c1
  have p_y := HC_y.out.c0
  have q_y := HC_y.out.c1
  go_region_held3 (fun w' => w'.cell? ⟨b_b, 0, none⟩ = some (.bool ng_b) ∧ w'.cell? ⟨b_b, 1, none⟩ = some (.slice ro_b (xs.length + m) c_b) ∧ w'.cell? ⟨b_a, 0, none⟩ = some (.bool ng_a) ∧ w'.cell? ⟨b_a, 1, none⟩ = some (.slice ro_a rl_a rl_a) ∧ w'.cell? ⟨w.heap.size + 1, 0, none⟩ = some (.bool ng_y) ∧ w'.cell? ⟨w.heap.size + 1, 1, none⟩ = some (.slice ao_y zs_y.length c_y))
    (first
      | with_reducible exact ⟨(HC_b.out.below K).c0, (HC_b.out.below K).c1, (HC_a.out.below K).c0, (HC_a.out.below K).c1, (HC_y.out.below K).c0, (HC_y.out.below K).c1⟩
      | exact ⟨(HC_b.out.below (by have ks := K.size; go_grown)).c0, (HC_b.out.below (by have ks := K.size; go_grown)).c1, (HC_a.out.below (by have ks := K.size; go_grown)).c0, (HC_a.out.below (by have ks := K.size; go_grown)).c1, (HC_y.out.below (by have ks := K.size; go_grown)).c0, (HC_y.out.below (by have ks := K.size; go_grown)).c1⟩
      | go_keep)
    (first
      | (go_at_call 32; first | ((with_reducible refine (wnorm_any (h_b.arg.below K) (by omega)).mono ?_); rintro e wn ⟨v_t1, rfl, t1, hb⟩; replace K := below_trans K hb; (try replace t2 := t2.below hb); (try replace t3 := t3.below hb); (try replace t4 := t4.below hb); (try replace t5 := t5.below hb); (try replace t6 := t6.below hb); (try replace t7 := t7.below hb); (try replace t8 := t8.below hb); (try replace t9 := t9.below hb); clear hb; obtain ⟨ng_t1, ro_t1, rl_t1, rfl⟩ := t1.told))
      | (go_at_call 24; first | ((with_reducible refine (wsame_any t1 (h_a.below K) rfl).mono ?_); rintro e wn ⟨rfl, hb⟩; replace K := below_trans K hb; (try replace t1 := t1.below hb); (try replace t2 := t2.below hb); (try replace t3 := t3.below hb); (try replace t4 := t4.below hb); (try replace t5 := t5.below hb); (try replace t6 := t6.below hb); (try replace t7 := t7.below hb); (try replace t8 := t8.below hb); (try replace t9 := t9.below hb); clear hb) | ((with_reducible refine (wsame_any t2 t3 rfl).mono ?_); rintro e wn ⟨rfl, hb⟩; replace K := below_trans K hb; (try replace t1 := t1.below hb); (try replace t2 := t2.below hb); (try replace t3 := t3.below hb); (try replace t4 := t4.below hb); (try replace t5 := t5.below hb); (try replace t6 := t6.below hb); (try replace t7 := t7.below hb); (try replace t8 := t8.below hb); (try replace t9 := t9.below hb); clear hb) | ((with_reducible refine (wsame_any t4 t5 rfl).mono ?_); rintro e wn ⟨rfl, hb⟩; replace K := below_trans K hb; (try replace t1 := t1.below hb); (try replace t2 := t2.below hb); (try replace t3 := t3.below hb); (try replace t4 := t4.below hb); (try replace t5 := t5.below hb); (try replace t6 := t6.below hb); (try replace t7 := t7.below hb); (try replace t8 := t8.below hb); (try replace t9 := t9.below hb); clear hb) | ((with_reducible refine (wsame_any t6 t7 rfl).mono ?_); rintro e wn ⟨rfl, hb⟩; replace K := below_trans K hb; (try replace t1 := t1.below hb); (try replace t2 := t2.below hb); (try replace t3 := t3.below hb); (try replace t4 := t4.below hb); (try replace t5 := t5.below hb); (try replace t6 := t6.below hb); (try replace t7 := t7.below hb); (try replace t8 := t8.below hb); (try replace t9 := t9.below hb); clear hb) | ((with_reducible refine (wsame_any t8 t9 rfl).mono ?_); rintro e wn ⟨rfl, hb⟩; replace K := below_trans K hb; (try replace t1 := t1.below hb); (try replace t2 := t2.below hb); (try replace t3 := t3.below hb); (try replace t4 := t4.below hb); (try replace t5 := t5.below hb); (try replace t6 := t6.below hb); (try replace t7 := t7.below hb); (try replace t8 := t8.below hb); (try replace t9 := t9.below hb); clear hb))
      | (go_at_call 31; first | ((with_reducible refine (wadd_any (h_a.arg.below K) (by omega) (h_y.arg.below K) (by omega)).mono ?_); rintro e wn ⟨v_t2, rfl, t2, hb⟩; replace K := below_trans K hb; (try replace t1 := t1.below hb); (try replace t3 := t3.below hb); (try replace t4 := t4.below hb); (try replace t5 := t5.below hb); (try replace t6 := t6.below hb); (try replace t7 := t7.below hb); (try replace t8 := t8.below hb); (try replace t9 := t9.below hb); clear hb; obtain ⟨ng_t2, ro_t2, rl_t2, rfl⟩ := t2.told) | ((with_reducible refine (wadd_any (h_b.arg.below K) (by omega) (h_y.arg.below K) (by omega)).mono ?_); rintro e wn ⟨v_t3, rfl, t3, hb⟩; replace K := below_trans K hb; (try replace t1 := t1.below hb); (try replace t2 := t2.below hb); (try replace t4 := t4.below hb); (try replace t5 := t5.below hb); (try replace t6 := t6.below hb); (try replace t7 := t7.below hb); (try replace t8 := t8.below hb); (try replace t9 := t9.below hb); clear hb; obtain ⟨ng_t3, ro_t3, rl_t3, rfl⟩ := t3.told))
      | (go_at_call 29; first | ((with_reducible refine (wmul_any (h_y.arg.below K) (by omega) (h_b.arg.below K) (by omega)).mono ?_); rintro e wn ⟨v_t4, rfl, t4, hb⟩; replace K := below_trans K hb; (try replace t1 := t1.below hb); (try replace t2 := t2.below hb); (try replace t3 := t3.below hb); (try replace t5 := t5.below hb); (try replace t6 := t6.below hb); (try replace t7 := t7.below hb); (try replace t8 := t8.below hb); (try replace t9 := t9.below hb); clear hb; obtain ⟨ng_t4, ro_t4, rl_t4, rfl⟩ := t4.told) | ((with_reducible refine (wmul_any (h_y.arg.below K) (by omega) (h_a.arg.below K) (by omega)).mono ?_); rintro e wn ⟨v_t5, rfl, t5, hb⟩; replace K := below_trans K hb; (try replace t1 := t1.below hb); (try replace t2 := t2.below hb); (try replace t3 := t3.below hb); (try replace t4 := t4.below hb); (try replace t6 := t6.below hb); (try replace t7 := t7.below hb); (try replace t8 := t8.below hb); (try replace t9 := t9.below hb); clear hb; obtain ⟨ng_t5, ro_t5, rl_t5, rfl⟩ := t5.told))
      | (go_at_call 30; first | ((with_reducible refine (wsub_any (h_y.arg.below K) (by omega) (h_b.arg.below K) (by omega)).mono ?_); rintro e wn ⟨v_t6, rfl, t6, hb⟩; replace K := below_trans K hb; (try replace t1 := t1.below hb); (try replace t2 := t2.below hb); (try replace t3 := t3.below hb); (try replace t4 := t4.below hb); (try replace t5 := t5.below hb); (try replace t7 := t7.below hb); (try replace t8 := t8.below hb); (try replace t9 := t9.below hb); clear hb; obtain ⟨ng_t6, ro_t6, rl_t6, rfl⟩ := t6.told) | ((with_reducible refine (wsub_any (h_y.arg.below K) (by omega) (h_a.arg.below K) (by omega)).mono ?_); rintro e wn ⟨v_t7, rfl, t7, hb⟩; replace K := below_trans K hb; (try replace t1 := t1.below hb); (try replace t2 := t2.below hb); (try replace t3 := t3.below hb); (try replace t4 := t4.below hb); (try replace t5 := t5.below hb); (try replace t6 := t6.below hb); (try replace t8 := t8.below hb); (try replace t9 := t9.below hb); clear hb; obtain ⟨ng_t7, ro_t7, rl_t7, rfl⟩ := t7.told))
      | (go_at_call 36; first | ((with_reducible refine (wneg_any (h_a.arg.below K) (by omega)).mono ?_); rintro e wn ⟨v_t8, rfl, t8, hb⟩; replace K := below_trans K hb; (try replace t1 := t1.below hb); (try replace t2 := t2.below hb); (try replace t3 := t3.below hb); (try replace t4 := t4.below hb); (try replace t5 := t5.below hb); (try replace t6 := t6.below hb); (try replace t7 := t7.below hb); (try replace t9 := t9.below hb); clear hb; obtain ⟨ng_t8, ro_t8, rl_t8, rfl⟩ := t8.told) | ((with_reducible refine (wneg_any (h_b.arg.below K) (by omega)).mono ?_); rintro e wn ⟨v_t9, rfl, t9, hb⟩; replace K := below_trans K hb; (try replace t1 := t1.below hb); (try replace t2 := t2.below hb); (try replace t3 := t3.below hb); (try replace t4 := t4.below hb); (try replace t5 := t5.below hb); (try replace t6 := t6.below hb); (try replace t7 := t7.below hb); (try replace t8 := t8.below hb); clear hb; obtain ⟨ng_t9, ro_t9, rl_t9, rfl⟩ := t9.told))
      | (go_at_call 25; first | ((with_reducible refine (wlives_any).mono ?_); rintro e wn ⟨rfl, hb⟩; replace K := below_trans K hb; (try replace t1 := t1.below hb); (try replace t2 := t2.below hb); (try replace t3 := t3.below hb); (try replace t4 := t4.below hb); (try replace t5 := t5.below hb); (try replace t6 := t6.below hb); (try replace t7 := t7.below hb); (try replace t8 := t8.below hb); (try replace t9 := t9.below hb); clear hb)))
  clear p_b q_b p_a q_a p_y q_y
  replace KB := below_trans KB K
  go_wp2
  go_ret
  exact ⟨rfl, KB⟩

end Go.Proofs.YtgaldbfgmbaebaaDoor
