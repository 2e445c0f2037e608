/- WholeBack: the walk, zero (mk_wbk.py) -/
import Derived.Test.YtgaldbfgmbaebaaDoorWbA
namespace Go.Proofs.YtgaldbfgmbaebaaDoor
open Go.RowKit
set_option linter.unusedVariables false

set_option maxRecDepth 100000 in
set_option maxHeartbeats 16000000 in
theorem wback_zero {w : World} {ng_x : Bool} {v_x : Value} {zs_x : List Int} {s : ByteArray} {d : Int}
    (r_x : Reads .u32 w v_x zs_x) (o_x : Nt.Ok zs_x) (j_x : zs_x.length ≤ 70368744177664) (hs : s.size ≤ 9223372036854775807) (hd0 : 0 ≤ d) (hd1 : d < 256) (hsign : wn ng_x (Nt.val zs_x) = 0) :
    Calls Tryd.prog 5 #[.agg #[.bool ng_x, v_x], .string s, .int .u8 d] w fun e w' => e = .returned (.bool true) ∧ Below w.heap.size w w' := by
  obtain ⟨es, he1, he2, he3⟩ := Go.Proofs.YtgaldbfgmbaebaaDoor.txt_of s
  obtain ⟨bw, nw, hrd⟩ := wrd_any es
  have HRD := hide (And.intro he1 (And.intro he3 (And.intro (show es.length ≤ 9223372036854775807 by omega) hrd)))
  clear he1 he2 he3 hrd
  obtain ⟨ao_x, c_x, rfl, ha1_x, ha2_x, ha3_x⟩ := r_x
  have R0_x : Reads .u32 w (.slice ao_x zs_x.length c_x) zs_x := ⟨ao_x, c_x, rfl, ha1_x, ha2_x, ha3_x⟩
  have HR0 := hide R0_x
  clear R0_x
  have KB : Below w.heap.size w ((w.alloc (.cells #[.bool ng_x, .slice ao_x zs_x.length c_x] 38)).alloc (.cells #[.bool ng_x, .slice ao_x zs_x.length c_x] 38)) := (below_trans (bel_alloc _ _) (bel_alloc _ _))
  have z1 : (w.alloc (.cells #[.bool ng_x, .slice ao_x zs_x.length c_x] 38)).heap.size = w.heap.size + 1 := by simp
  have C_x := (cell2_new w (.bool ng_x) (.slice ao_x zs_x.length c_x) 38).alloc (.cells #[.bool ng_x, .slice ao_x zs_x.length c_x] 38)
  have f0 : ((w.alloc (.cells #[.bool ng_x, .slice ao_x zs_x.length c_x] 38)).alloc (.cells #[.bool ng_x, .slice ao_x zs_x.length c_x] 38)).cell? ⟨w.heap.size + 1, 1, none⟩ = some (.slice ao_x zs_x.length c_x) := by rw [World.cell?_alloc_at _ _ _ _ (by rw [z1])]; rfl
  have fz : w.heap.size + 1 < ((w.alloc (.cells #[.bool ng_x, .slice ao_x zs_x.length c_x] 38)).alloc (.cells #[.bool ng_x, .slice ao_x zs_x.length c_x] 38)).heap.size := by simp
  have hbey := beyond_w1 fz j_x f0
  clear fz f0 z1
  by_cases hbig : (1048576 < 1 + zs_x.length)
  · rw [decide_eq_true hbig] at hbey
    have Hbey := hide hbey
    clear hbey hbig
    go_enter Tryd.func5, Tryd.ntmps5
    go_wp2_with fail
    with_reducible refine Hbey.out.mono ?_
    rintro e w1 ⟨rfl, hb⟩
    go_wp2
    go_ret
    exact ⟨rfl, KB.trans (hb.mono KB.size)⟩
  rw [decide_eq_false hbig] at hbey
  have Hbey := hide hbey
  clear hbey
  have HC_x := hide C_x
  clear C_x
  by_cases h2000 : 2000 < zs_x.length
  · have h20 : (2000 : Int) < (zs_x.length : Int) := by omega
    clear hbig
    go_enter Tryd.func5, Tryd.ntmps5
    go_wp2_with fail
    with_reducible refine Hbey.out.mono ?_
    rintro e w1 ⟨rfl, hb⟩
    have q_x := (HC_x.out.below hb).c1
    go_wp2
    go_ret
    exact ⟨rfl, KB.trans (hb.mono KB.size)⟩
  have h20 : decide ((2000 : Int) < (zs_x.length : Int)) = false := decide_eq_false (by omega)
  have hl_x : zs_x.length ≤ 2000 := by omega
  have h_x : WArg w (.agg #[.bool ng_x, .slice ao_x zs_x.length c_x]) (wn ng_x (Nt.val zs_x)) 2000 := ⟨_, _, _, rfl, ⟨zs_x, ⟨ao_x, c_x, rfl, ha1_x, ha2_x, ha3_x⟩, o_x, rfl, by omega⟩, rfl⟩
  have hNlt := hide (show wab (wn ng_x (Nt.val zs_x)) < Nt.pw 2000 by rw [wab_wn rfl (Nt.val_nonneg o_x)]; exact Int.lt_of_lt_of_le (Nt.val_lt o_x) (Nt.pw_mono hl_x))
  clear ha1_x ha2_x ha3_x o_x
  generalize wn ng_x (Nt.val zs_x) = N_x at *
  replace h_x := h_x.below KB
  clear hbig h2000
  go_enter Tryd.func5, Tryd.ntmps5
  go_wp2_with fail
  with_reducible refine Hbey.out.mono ?_
  clear Hbey
  rintro e w1 ⟨rfl, hb⟩
  replace KB := KB.trans (hb.mono KB.size)
  replace h_x := h_x.below hb
  replace HC_x := hide (HC_x.out.below hb)
  clear hb
  have p_x := HC_x.out.c0
  have q_x := HC_x.out.c1
  go_wp2_with fail
  (with_reducible refine (wshow_any h_x (by omega)).mono ?_)
  rintro e w2 ⟨ds, rfl, hds, hdl, hb⟩
  clear p_x q_x h20
  replace KB := below_trans KB hb
  replace h_x := h_x.below hb
  replace HC_x := hide (HC_x.out.below hb)
  clear hb
  obtain ⟨es0, s0, hW⟩ := back_text hds hdl hNlt.out
  have HW := hide hW
  have hs0 := hW.2.1
  rw [hs0]
  have hsz0 := hW.2.2.2.1
  have HDS := hide hds
  clear hW hs0 hds
  go_wp2_with fail
  (with_reducible refine (wread_any HW.out.1 HW.out.2.2.1 (by have := HW.out.2.2.2.2.1; omega) HW.out.2.2.2.2.2.1).mono ?_)
  rintro e w3 ⟨v_y, rfl, h_y, hb⟩
  replace KB := below_trans KB hb
  replace h_x := h_x.below hb
  replace HC_x := hide (HC_x.out.below hb)
  clear hb
  obtain ⟨ng_y, ro_y, rl_y, rfl⟩ := h_y.told
  go_upto_region 5 with fail
  have hb := bel_alloc w3 (.cells #[.bool ng_y, .slice ro_y rl_y rl_y] 38)
  have C_y := cell2_new w3 (.bool ng_y) (.slice ro_y rl_y rl_y) 38
  replace KB := below_trans KB hb
  replace h_x := h_x.below hb
  replace HC_x := hide (HC_x.out.below hb)
  replace h_y := h_y.below hb
  clear hb
  obtain ⟨b_y, eb⟩ : ∃ b, b = w3.heap.size := ⟨_, rfl⟩
  rw [← eb] at C_y ⊢
  clear eb
  generalize w3.alloc (.cells #[.bool ng_y, .slice ro_y rl_y rl_y] 38) = w4 at *
  have HC_y := hide C_y
  clear C_y
  have p_y := HC_y.out.c0
  have q_y := HC_y.out.c1
  go_wp2_with fail
  (with_reducible refine (normal_any h_y).mono ?_)
  rintro e w5 ⟨rfl, hb⟩
  clear p_y q_y
  replace KB := below_trans KB hb
  replace h_x := h_x.below hb
  replace HC_x := hide (HC_x.out.below hb)
  replace h_y := h_y.below hb
  replace HC_y := hide (HC_y.out.below hb)
  clear hb
  have p_y := HC_y.out.c0
  have q_y := HC_y.out.c1
  have p_x := HC_x.out.c0
  have q_x := HC_x.out.c1
  go_wp2_with fail
  (with_reducible refine (wcmp_told (sgn_self' N_x) h_x h_y.arg (by omega) (by omega)).mono ?_)
  rintro e w6 ⟨rfl, hb⟩
  clear p_y q_y p_x q_x
  replace KB := below_trans KB hb
  replace h_x := h_x.below hb
  replace HC_x := hide (HC_x.out.below hb)
  replace h_y := h_y.below hb
  replace HC_y := hide (HC_y.out.below hb)
  clear hb
  have hsg : sgn N_x 0 = 0 := sgn_eq hsign
  go_upto_region 8 with fail
  have K : Below w6.heap.size w6 w6.drew := (Below.refl _ _).drew
  have p_x := HC_x.out.c0
  have q_x := HC_x.out.c1
  go_region_held3 (fun w' => w'.cell? ⟨w.heap.size, 0, none⟩ = some (.bool ng_x) ∧ w'.cell? ⟨w.heap.size, 1, none⟩ = some (.slice ao_x zs_x.length c_x))
    (first | with_reducible exact ⟨(HC_x.out.below K).c0, (HC_x.out.below K).c1⟩ | go_keep)
    (first
      | (go_at_call 28; ((with_reducible refine (wfrom_any (n := 0) (by omega) (by omega)).mono ?_); rintro e wn ⟨v_t1, rfl, t1, hb⟩; replace K := below_trans K hb; clear hb; obtain ⟨ng_t1, ro_t1, rl_t1, rfl⟩ := t1.told))
      | (go_at_call 27; ((with_reducible refine (wcmp_told hsg (h_x.below K) t1.arg (by omega) (by omega)).mono ?_); rintro e w7 ⟨rfl, hb⟩; replace K := below_trans K hb; clear hb; clear t1)))
  clear p_x q_x
  replace KB := below_trans KB K
  replace h_x := h_x.below K
  replace HC_x := hide (HC_x.out.below K)
  replace h_y := h_y.below K
  replace HC_y := hide (HC_y.out.below K)
  clear K
  obtain ⟨L, hL⟩ : ∃ L, ds.length = L := ⟨_, rfl⟩
  have hLp : 0 < L := by have := HDS.out.2.1; omega
  have hLb : L ≤ 10200000 := by omega
  obtain ⟨t0, ht0⟩ : ∃ t0, t0 = strOfNums ds := ⟨_, rfl⟩
  have htz : t0.size = L := by rw [ht0, strOfNums_size, hL]
  have Hix := hide (show ∀ p (h : p < t0.size), (((t0[p]'h).toNat : Nat) : Int) = Nt.lb ds p from fun p h => by subst ht0; exact txt_at h HDS.out.1.byt)
  have HL := hide hL
  have HT0 := hide ht0
  have htp : 0 < t0.size := by omega
  clear hL ht0
  have hst : s0 = t0 := by have h := HW.out.2.2.2.2.2.2; rw [if_neg (by omega)] at h; rw [HW.out.2.2.1, h, HT0.out]
  clear hsz0
  subst hst
  have hd48 : ds = [48] := HDS.out.unique (by rw [hsign]; exact ⟨fun x hx => by simp at hx; omega, by simp, .inr rfl, by rw [dgv_one']; rfl⟩)
  have HD48 := hide hd48
  have HL1 := hide (show L = 1 by rw [← HL.out, hd48]; rfl)
  have htt : (s0.toList == [48]) = true := by
    rw [HT0.out, hd48, ByteArray.toList_eq]
    rfl
  have HSG0 := hide hsign
  clear hd48 hsign
  go_wp2
  go_loopg [11] L (fun c i wr => ∃ k : Nat, k ≤ L ∧ c = L - k ∧ i = .int .i64 k ∧ w7 = wr)
  case atStart => exact ⟨0, by omega, rfl, rfl, rfl⟩
  case round =>
    obtain ⟨k, hk, hgk, rfl, hw⟩ := hrel
    subst hw
    by_cases hkl : k < L
    · have hps : k < s0.size := by omega
      have hx := Hix.out k hps
      have hb9 := HDS.out.1 _ (lb_in (p := k) (by rw [HL.out]; exact hkl))
      obtain ⟨g, hgg⟩ : ∃ g, Nt.lb ds k = g := ⟨_, rfl⟩
      have q4 : (k : Int) < (L : Int) := by omega
      by_cases hk0 : k = 0
      · subst hk0
        have hg48 : (g == 48) = true := by rw [← hgg, HD48.out]; rfl
        rw [hgg] at hx hb9
        clear hgg
        obtain ⟨x0, x1⟩ := hb9
        have l1 : ¬ g < 48 := by omega
        have l2 : ¬ 57 < g := by omega
        go_wp2
        go_roundg (L - 1)
        case measure => omega
        case rel => exact ⟨1, by omega, rfl, by simp, rfl⟩
      · have hkb : ((k : Int) == 0) = false := beq_eq_false_iff_ne.2 (by omega)
        rw [hgg] at hx hb9
        clear hgg
        obtain ⟨x0, x1⟩ := hb9
        have l1 : ¬ g < 48 := by omega
        have l2 : ¬ 57 < g := by omega
        go_wp2
        go_roundg (L - (k + 1))
        case measure => omega
        case rel => exact ⟨k + 1, by omega, rfl, by simp, rfl⟩
    · have hke : k = L := by omega
      subst hke
      go_upto_region 18 with fail
      go_cut [13] from 92 (fun s13 wx => ∃ b ng ro rl, s13 = .pointer (some ⟨b, 0, none⟩) ∧ Cell2 wx b (.bool ng) (.slice ro rl rl) ∧ WNum w7.heap.size wx (.agg #[.bool ng, .slice ro rl rl]) (N_x * 10) 262146 ∧ w7.heap.size ≤ b ∧ Below w7.heap.size w7 wx)
      case first =>
        have K : Below w7.heap.size w7 w7.drew := (Below.refl _ _).drew
        have p_y := HC_y.out.c0
        have q_y := HC_y.out.c1
        go_region_held3 (fun w' => w'.cell? ⟨b_y, 0, none⟩ = some (.bool ng_y) ∧ w'.cell? ⟨b_y, 1, none⟩ = some (.slice ro_y rl_y rl_y))
          (first
            | with_reducible exact ⟨(HC_y.out.below K).c0, (HC_y.out.below K).c1⟩
            | exact ⟨(HC_y.out.below (by have ks := K.size; go_grown)).c0, (HC_y.out.below (by have ks := K.size; go_grown)).c1⟩
            | exact ⟨(HC_y.out.below ((K.setCell (p := ⟨wn.heap.size, 0, none⟩) kn _).setCell (p := ⟨wn.heap.size, 1, none⟩) kn _)).c0, (HC_y.out.below ((K.setCell (p := ⟨wn.heap.size, 0, none⟩) kn _).setCell (p := ⟨wn.heap.size, 1, none⟩) kn _)).c1⟩)
          (first
            | (go_at_call 28; with_reducible refine (wfrom_any (n := 10) (by omega) (by omega)).mono ?_; rintro e wn ⟨v_t1, rfl, t1, hb⟩; obtain ⟨ng_t1, ro_t1, rl_t1, rfl⟩ := t1.told; replace K := below_trans' (a := w7) hb (by have ks := K.size; go_grown); have kn : w7.heap.size ≤ wn.heap.size := K.size; revert hb; (first | ((fail_if_success with_reducible refine after1d_k ?_); intro hb) | (with_reducible refine after1d_k ?_; rintro Z1 hb; have z10 := Z1.c0; have z11 := Z1.c1; have z12 := Z1.f0; have z13 := Z1.f1; have z14 := Z1.lt)); clear hb)
            | (go_at_call 29; refine (wmul_any (n1 := N_x) (n2 := 10) (k1 := 262144) (k2 := 2) ?_ ?_ ?_ ?_).mono ?_; (exact h_y.arg.below (by have ks := K.size; go_grown)); omega; (first | exact t1.arg | exact t1.arg.below (bel_alloc _ _)); omega; rintro e wm ⟨v_m, rfl, t2, hb⟩; obtain ⟨ng_m, ro_m, rl_m, rfl⟩ := t2.told; replace K := below_trans' (a := w7) hb (by have ks := K.size; go_grown); (first | (replace Z1 := Z1.below hb; clear hb; have z10 := Z1.c0; have z11 := Z1.c1; have z12 := Z1.f0; have z13 := Z1.f1; have z14 := Z1.lt) | (revert hb; with_reducible refine after1_k ?_; rintro Z1 hb; clear hb; have z10 := Z1.c0; have z11 := Z1.c1; have z12 := Z1.f0; have z13 := Z1.f1; have z14 := Z1.lt) | clear hb)))
        all_goals go_wp2_with fail
        all_goals go_meet
        all_goals first
          | exact ⟨_, _, _, _, rfl, cell2_new _ _ _ _, ((t2.mono (by omega)).low (by first | exact kn | (simp; omega))).below (bel_alloc _ _), by have := K.size; omega, below_trans K (bel_alloc _ _)⟩
          | exact ⟨_, _, _, _, rfl, Z1.put _ _, ((t2.mono (by omega)).low (by first | exact kn | (simp; omega))).putc Z1 _ _, by first | exact Nat.le_refl _ | exact kn, below_put2 K (by first | exact Nat.le_refl _ | exact kn) _ _⟩
      case rest =>
        obtain ⟨b_m, ng_m, ro_m, rl_m, rfl, C_m, h_m, ge_m, K⟩ := hcut
        rename World => w8
        have HC_m := hide C_m
        have h_x8 := h_x.below K
        have HC_x8 := hide (HC_x.out.below K)
        clear C_m
        go_upto_region 19 with fail
        have K9 : Below w8.heap.size w8 w8.drew := (Below.refl _ _).drew
        have p_x := HC_x8.out.c0
        have q_x := HC_x8.out.c1
        go_region_held3 (fun w' => w'.cell? ⟨w.heap.size, 0, none⟩ = some (.bool ng_x) ∧ w'.cell? ⟨w.heap.size, 1, none⟩ = some (.slice ao_x zs_x.length c_x))
          (first | with_reducible exact ⟨(HC_x8.out.below K9).c0, (HC_x8.out.below K9).c1⟩ | go_keep)
          (first
            | (go_at_call 28; ((with_reducible refine (wfrom_any (n := 0) (by omega) (by omega)).mono ?_); rintro e wn ⟨v_t1, rfl, t1, hb⟩; replace K9 := below_trans K9 hb; clear hb; obtain ⟨ng_t1, ro_t1, rl_t1, rfl⟩ := t1.told))
            | (go_at_call 27; ((with_reducible refine (wcmp_told hsg (h_x8.below K9) t1.arg (by omega) (by omega)).mono ?_); rintro e w9 ⟨rfl, hb⟩; replace K9 := below_trans K9 hb; clear hb; clear t1)))
        clear p_x q_x h_x8 HC_x8
        replace HC_m := hide (HC_m.out.below K9)
        replace h_m := h_m.below K9
        replace K := below_trans K K9
        clear K9
        go_upto_region 21 with fail
        go_cut [6] from 99 (fun _ wx => ∃ ng ro rl, Cell2 wx b_m (.bool ng) (.slice ro rl rl) ∧ WNum w7.heap.size wx (.agg #[.bool ng, .slice ro rl rl]) (N_x * 10 + d % 10) 262150 ∧ Below w7.heap.size w7 wx)
        case first =>
          have p_m := HC_m.out.c0
          have q_m := HC_m.out.c1
          have r_m := HC_m.out.f0
          have s_m := HC_m.out.f1
          go_region_with (first
            | (go_at_call 28; with_reducible refine (wfrom_any (n := d % 10) (by omega) (by omega)).mono ?_; rintro e wn ⟨v_t1, rfl, t1, hb⟩; obtain ⟨ng_t1, ro_t1, rl_t1, rfl⟩ := t1.told; replace hb := below_trans (Below.refl _ _).drew hb; have C2 := HC_m.out.below hb; have p_m2 := C2.c0; have q_m2 := C2.c1)
            | (go_at_call 31; with_reducible refine (wadd_any (h_m.arg.below hb) (by omega) t1.arg (by omega)).mono ?_; rintro e wm ⟨v_m, rfl, t2, hb2⟩; obtain ⟨ng_k, ro_k, rl_k, rfl⟩ := t2.told; have C3 := C2.below hb2; have p_m3 := C3.c0; have q_m3 := C3.c1; have r_m3 := C3.f0; have s_m3 := C3.f1))
          all_goals go_wp2_with fail
          all_goals go_meet
          all_goals exact ⟨_, _, _, C3.put _ _, ((t2.mono (by omega)).low (by have q1 := hb.size; have q2 := K.size; omega)).putc C3 _ _, below_put2 (below_trans K (below_trans hb hb2)) ge_m _ _⟩
        case rest =>
          obtain ⟨ng_k, ro_k, rl_k, C_k, h_k, K⟩ := hcut
          rename World => w10
          clear HC_x HC_y h_x h_y HC_m h_m ge_m hsg
          have HC_k := hide C_k
          clear C_k
          go_upto_region 22 with fail
          go_cut [120] from 107 (fun s120 wx => s120 = .bool false ∧ Below w10.heap.size w10 wx)
          case first =>
            have p_k := HC_k.out.c0
            have q_k := HC_k.out.c1
            refine wp_region_noPanic ?_
            refine wp_region_held_drew (S := fun _ => True) (by kernel_rfl) trivial (fun hHeld => ?_)
            refine wpAnyH_take (i := 0) (oi := ({ dst := some 107, op := Op.move (Operand.tmp 7), type := 9, pos := _, after := #[], guard := none } : Oper)) (v := ?v7000) rfl (by kernel_rfl) (by kernel_rfl) (by kernel_rfl) (fun _ _ _ h => h) (Or.inl ⟨by rfl, ?hy7000⟩) (by assumption) ?_
            case hy7000 => (intro w hSw; (try dsimp only at hSw); go_simp; (try with_reducible rfl))
            (try simp only [Act.put, List.setIfInBounds_toArray, List.set_cons_zero, List.set_cons_succ])
            refine wpAnyH_take (i := 1) (oi := ({ dst := some 108, op := Op.binOp BinOp.neq 9 (Operand.tmp 107) (Operand.const (Value.string { data := #[48] })) 9, type := 4, pos := _, after := #[{ on := 0, ground := Ground.data }], guard := none } : Oper)) (v := ?v7001) rfl (by kernel_rfl) (by kernel_rfl) (by kernel_rfl) (fun _ _ _ h => h) (Or.inl ⟨by rfl, ?hy7001⟩) (by assumption) ?_
            case hy7001 => (intro w hSw; (try dsimp only at hSw); go_simp; (try with_reducible rfl))
            (try simp only [Act.put, List.setIfInBounds_toArray, List.set_cons_zero, List.set_cons_succ])
            refine wpAnyH_take (i := 2) (oi := ({ dst := some 109, op := Op.move (Operand.tmp 108), type := 4, pos := _, after := #[{ on := 1, ground := Ground.data }], guard := none } : Oper)) (v := ?v7002) rfl (by kernel_rfl) (by kernel_rfl) (by kernel_rfl) (fun _ _ _ h => h) (Or.inl ⟨by rfl, ?hy7002⟩) (by assumption) ?_
            case hy7002 => (intro w hSw; (try dsimp only at hSw); go_simp; (try with_reducible rfl))
            (try simp only [Act.put, List.setIfInBounds_toArray, List.set_cons_zero, List.set_cons_succ])
            refine wpAnyH_take (i := 3) (oi := ({ dst := some 110, op := Op.load 38 (Operand.tmp 13), type := 38, pos := _, after := #[{ on := 2, ground := Ground.guard }], guard := some (2, true) } : Oper)) (v := undef) rfl (by kernel_rfl) (by kernel_rfl) (by kernel_rfl) (fun _ _ _ h => h) (Or.inr ⟨by rfl, rfl⟩) (by assumption) ?_
            (try simp only [Act.put, List.setIfInBounds_toArray, List.set_cons_zero, List.set_cons_succ])
            refine wpAnyH_take (i := 4) (oi := ({ dst := some 111, op := Op.call { callee := Callee.value (Operand.func 21), args := #[Operand.tmp 110], argTypes := #[38] }, type := 9, pos := _, after := #[{ on := 3, ground := Ground.data }, { on := 2, ground := Ground.chain }, { on := 2, ground := Ground.guard }], guard := some (2, true) } : Oper)) (v := undef) rfl (by kernel_rfl) (by kernel_rfl) (by kernel_rfl) (fun _ _ _ h => h) (Or.inr ⟨by rfl, rfl⟩) (by assumption) ?_
            (try simp only [Act.put, List.setIfInBounds_toArray, List.set_cons_zero, List.set_cons_succ])
            refine wpAnyH_take (i := 5) (oi := ({ dst := some 112, op := Op.move (Operand.tmp 7), type := 9, pos := _, after := #[{ on := 2, ground := Ground.guard }], guard := some (2, true) } : Oper)) (v := undef) rfl (by kernel_rfl) (by kernel_rfl) (by kernel_rfl) (fun _ _ _ h => h) (Or.inr ⟨by rfl, rfl⟩) (by assumption) ?_
            (try simp only [Act.put, List.setIfInBounds_toArray, List.set_cons_zero, List.set_cons_succ])
            refine wpAnyH_take (i := 6) (oi := ({ dst := some 113, op := Op.move (Operand.tmp 2), type := 5, pos := _, after := #[{ on := 2, ground := Ground.guard }], guard := some (2, true) } : Oper)) (v := undef) rfl (by kernel_rfl) (by kernel_rfl) (by kernel_rfl) (fun _ _ _ h => h) (Or.inr ⟨by rfl, rfl⟩) (by assumption) ?_
            (try simp only [Act.put, List.setIfInBounds_toArray, List.set_cons_zero, List.set_cons_succ])
            refine wpAnyH_take (i := 7) (oi := ({ dst := some 114, op := Op.binOp BinOp.rem 5 (Operand.tmp 113) (Operand.const (Value.int IntKind.u8 10)) 5, type := 5, pos := _, after := #[{ on := 6, ground := Ground.data }, { on := 2, ground := Ground.guard }], guard := some (2, true) } : Oper)) (v := undef) rfl (by kernel_rfl) (by kernel_rfl) (by kernel_rfl) (fun _ _ _ h => h) (Or.inr ⟨by rfl, rfl⟩) (by assumption) ?_
            (try simp only [Act.put, List.setIfInBounds_toArray, List.set_cons_zero, List.set_cons_succ])
            refine wpAnyH_take (i := 8) (oi := ({ dst := some 115, op := Op.binOp BinOp.add 5 (Operand.const (Value.int IntKind.u8 48)) (Operand.tmp 114) 5, type := 5, pos := _, after := #[{ on := 7, ground := Ground.data }, { on := 2, ground := Ground.guard }], guard := some (2, true) } : Oper)) (v := undef) rfl (by kernel_rfl) (by kernel_rfl) (by kernel_rfl) (fun _ _ _ h => h) (Or.inr ⟨by rfl, rfl⟩) (by assumption) ?_
            (try simp only [Act.put, List.setIfInBounds_toArray, List.set_cons_zero, List.set_cons_succ])
            refine wpAnyH_take (i := 9) (oi := ({ dst := some 116, op := Op.buildSlice 28 1 #[(0, Operand.tmp 115)], type := 28, pos := _, after := #[{ on := 8, ground := Ground.data }, { on := 2, ground := Ground.guard }], guard := some (2, true) } : Oper)) (v := undef) rfl (by kernel_rfl) (by kernel_rfl) (by kernel_rfl) (fun _ _ _ h => h) (Or.inr ⟨by rfl, rfl⟩) (by assumption) ?_
            (try simp only [Act.put, List.setIfInBounds_toArray, List.set_cons_zero, List.set_cons_succ])
            refine wpAnyH_take (i := 10) (oi := ({ dst := some 117, op := Op.convert 28 9 (Operand.tmp 116), type := 9, pos := _, after := #[{ on := 9, ground := Ground.data }, { on := 2, ground := Ground.guard }], guard := some (2, true) } : Oper)) (v := undef) rfl (by kernel_rfl) (by kernel_rfl) (by kernel_rfl) (fun _ _ _ h => h) (Or.inr ⟨by rfl, rfl⟩) (by assumption) ?_
            (try simp only [Act.put, List.setIfInBounds_toArray, List.set_cons_zero, List.set_cons_succ])
            refine wpAnyH_take (i := 11) (oi := ({ dst := some 118, op := Op.binOp BinOp.add 9 (Operand.tmp 112) (Operand.tmp 117) 9, type := 9, pos := _, after := #[{ on := 5, ground := Ground.data }, { on := 10, ground := Ground.data }, { on := 2, ground := Ground.guard }], guard := some (2, true) } : Oper)) (v := undef) rfl (by kernel_rfl) (by kernel_rfl) (by kernel_rfl) (fun _ _ _ h => h) (Or.inr ⟨by rfl, rfl⟩) (by assumption) ?_
            (try simp only [Act.put, List.setIfInBounds_toArray, List.set_cons_zero, List.set_cons_succ])
            refine wpAnyH_take (i := 12) (oi := ({ dst := some 119, op := Op.binOp BinOp.neq 9 (Operand.tmp 111) (Operand.tmp 118) 9, type := 4, pos := _, after := #[{ on := 4, ground := Ground.data }, { on := 11, ground := Ground.data }, { on := 2, ground := Ground.guard }], guard := some (2, true) } : Oper)) (v := undef) rfl (by kernel_rfl) (by kernel_rfl) (by kernel_rfl) (fun _ _ _ h => h) (Or.inr ⟨by rfl, rfl⟩) (by assumption) ?_
            (try simp only [Act.put, List.setIfInBounds_toArray, List.set_cons_zero, List.set_cons_succ])
            refine wpAnyH_take (i := 13) (oi := ({ dst := some 120, op := Op.pick (Operand.tmp 109) (Operand.tmp 119) (Operand.const (Value.bool false)), type := 4, pos := _, after := #[{ on := 2, ground := Ground.data }, { on := 12, ground := Ground.data }], guard := none } : Oper)) (v := ?v7013) rfl (by kernel_rfl) (by kernel_rfl) (by kernel_rfl) (fun _ _ _ h => h) (Or.inl ⟨by rfl, ?hy7013⟩) (by assumption) ?_
            case hy7013 => (intro w hSw; (try dsimp only at hSw); go_simp; (try with_reducible rfl))
            (try simp only [Act.put, List.setIfInBounds_toArray, List.set_cons_zero, List.set_cons_succ])
            refine wpAnyH_done (by kernel_rfl) ?_ _
            refine NoPanic.normal ?_
            go_wp2_with fail
            go_meet
            exact ⟨rfl, (Below.refl _ _).drew⟩
          case rest =>
            obtain ⟨rfl, K10⟩ := hcut
            rename World => w11
            replace KB := below_trans KB (below_trans K K10)
            clear K K10 h_k HC_k
            go_wp2_with fail
            (with_reducible refine (wread_any HRD.out.1 HRD.out.2.1 HRD.out.2.2.1 HRD.out.2.2.2).mono ?_)
            rintro e w12 ⟨v_z, rfl, h_z, hb⟩
            replace KB := below_trans KB hb
            clear hb
            obtain ⟨ng_z, ro_z, rl_z, rfl⟩ := h_z.told
            cases bw with
            | false =>
              go_wp2_with fail
              (with_reducible refine wlives_any.mono ?_)
              rintro e w14 ⟨rfl, hb⟩
              have KF := below_trans (below_trans KB (bel_alloc _ _)) hb
              clear hb
              go_wp2
              go_ret
              exact ⟨rfl, KF⟩
            | true =>
              have hb := bel_alloc w12 (.cells #[.bool ng_z, .slice ro_z rl_z rl_z] 38)
              have C_z := cell2_new w12 (.bool ng_z) (.slice ro_z rl_z rl_z) 38
              replace KB := below_trans KB hb
              replace h_z := h_z.below hb
              have p_z := C_z.c0
              have q_z := C_z.c1
              clear hb
              go_wp2_with fail
              (with_reducible refine (wshow_any h_z.arg (by omega)).mono ?_)
              rintro e w14 ⟨dsz, rfl, hdz, -, hb⟩
              have htz2 := back_show HRD.out.2.2.2 hdz HRD.out.2.1
              rw [htz2]
              replace KB := below_trans KB hb
              replace h_z := h_z.below hb
              replace C_z := C_z.below hb
              clear hb htz2 hdz p_z q_z
              have p_z := C_z.c0
              have q_z := C_z.c1
              go_wp2_with fail
              (with_reducible refine (normal_any h_z).mono ?_)
              rintro e w15 ⟨rfl, hb⟩
              replace KB := below_trans KB hb
              clear hb p_z q_z
              go_wp2_with fail
              (with_reducible refine wlives_any.mono ?_)
              rintro e w16 ⟨rfl, hb⟩
              replace KB := below_trans KB hb
              clear hb
              go_wp2
              go_ret
              exact ⟨rfl, KB⟩


end Go.Proofs.YtgaldbfgmbaebaaDoor
