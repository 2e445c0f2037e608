/- NumberOrder: the walk (mk_nodw.py) -/
import Derived.Test.YtnjbmegnfeecjaaGreatDoorR13
import Derived.Test.YtnjbmegnfeecjaaGreatDoorR19
import Derived.Test.YtnjbmegnfeecjaaGreatDoorR20
namespace Go.Proofs.YtnjbmegnfeecjaaGreatDoor
open Go.RowKit
set_option linter.unusedVariables false

set_option maxHeartbeats 16000000 in
set_option maxRecDepth 20000 in
theorem norder_walk {w : World} (L : Lays w) (T : Brn w) (U : Uss w) {gx gy : Bool} {mx my : Value} {xs ys : List Int} (hx : Reads .u32 w mx xs) (hxo : Nt.Ok xs) (hxl : xs.length ≤ 70368744177664) (hy : Reads .u32 w my ys) (hyo : Nt.Ok ys) (hyl : ys.length ≤ 70368744177664) {b : Int} (hb0 : 0 ≤ b) (hb1 : b < 18446744073709551616) :
    Calls Tryz.prog 3 #[.agg #[.bool gx, mx], .agg #[.bool gy, my], .int .u64 b] w fun e' w' => e' = .returned (.bool true) ∧ Below w.heap.size w w' := by
  have HL := hide L
  have HT := hide T
  have HU := hide U
  have HX := hide hx
  have HXO := hide hxo
  have HY := hide hy
  have HYO := hide hyo
  obtain ⟨ox, cx, rfl, -⟩ := hx
  obtain ⟨oy, cy, rfl, -⟩ := hy
  obtain ⟨lx, hlx⟩ : ∃ lx, xs.length = lx := ⟨_, rfl⟩
  obtain ⟨ly, hly⟩ : ∃ ly, ys.length = ly := ⟨_, rfl⟩
  have HLX := hide hlx
  have HLY := hide hly
  rw [hlx] at HX hxl ⊢
  rw [hly] at HY hyl ⊢
  clear L T U hxo hyo hlx hly
  go_enter Tryz.func3, Tryz.ntmps3
  go_upto_region 1 with fail
  have K0 := bel_new w (.cells #[.bool gx, .slice ox lx cx] 25)
  have C0 := cell2_new w (.bool gx) (.slice ox lx cx) 25
  have hz0 : (w.alloc (.cells #[.bool gx, .slice ox lx cx] 25)).heap.size = w.heap.size + 1 := by simp
  generalize w.alloc (.cells #[.bool gx, .slice ox lx cx] 25) = w0 at *
  have K1 := bel_new w0 (.cells #[.bool gy, .slice oy ly cy] 25)
  have C1 := cell2_new w0 (.bool gy) (.slice oy ly cy) 25
  rw [hz0] at C1
  generalize w0.alloc (.cells #[.bool gy, .slice oy ly cy] 25) = w1 at *
  have HC1x := hide (C0.below K1)
  have HC1y := hide C1
  have HK1 := hide (below_trans K0 K1)
  clear K0 K1 C0 C1 hz0
  have d0 := HC1x.out.c0
  have d1 := HC1x.out.c1
  have e0 := HC1y.out.c0
  have e1 := HC1y.out.c1
  have KS := bel_new w1 (.cells #[.slice ox lx cx] 23)
  have cS : (w1.alloc (.cells #[.slice ox lx cx] 23)).cell? ⟨w1.heap.size, 0, none⟩ = some (.slice ox lx cx) := by rw [World.cell?_alloc_at _ _ _ _ rfl]; rfl
  have HCx := hide (HC1x.out.below KS)
  have HCy := hide (HC1y.out.below KS)
  have HK := hide (below_trans HK1.out KS)
  have HCS := hide cS
  clear KS cS HC1x HC1y HK1
  go_wp2_with fail
  generalize w1.alloc (.cells #[.slice ox lx cx] 23) = w2 at *
  with_reducible refine (beyondnat_one HCS.out (by omega)).mono ?_
  rintro e w2' ⟨rfl, rfl⟩
  clear HCS d0 d1 e0 e1
  by_cases big : 1048576 < 1 + lx
  · rw [decide_eq_true big]
    clear big
    go_wp2
    go_ret
    exact ⟨rfl, HK.out⟩
  rw [decide_eq_false big]
  have e0 := HCy.out.c0
  have e1 := HCy.out.c1
  have KS := bel_new w2' (.cells #[.slice oy ly cy] 23)
  have cS : (w2'.alloc (.cells #[.slice oy ly cy] 23)).cell? ⟨w2'.heap.size, 0, none⟩ = some (.slice oy ly cy) := by rw [World.cell?_alloc_at _ _ _ _ rfl]; rfl
  have HCS := hide cS
  have HCx3 := hide (HCx.out.below KS)
  have HCy3 := hide (HCy.out.below KS)
  have HK3 := hide (below_trans HK.out KS)
  clear KS cS HCx HCy HK
  go_wp2_with fail
  generalize w2'.alloc (.cells #[.slice oy ly cy] 23) = w3 at *
  with_reducible refine (beyondnat_one HCS.out (by omega)).mono ?_
  rintro e w3' ⟨rfl, rfl⟩
  clear HCS e0 e1
  by_cases bigy : 1048576 < 1 + ly
  · rw [decide_eq_true bigy]
    clear big bigy
    go_wp2
    go_ret
    exact ⟨rfl, HK3.out⟩
  rw [decide_eq_false bigy]
  obtain ⟨nx, hnx⟩ : ∃ nx, wn gx (Nt.val xs) = nx := ⟨_, rfl⟩
  obtain ⟨ny, hny⟩ : ∃ ny, wn gy (Nt.val ys) = ny := ⟨_, rfl⟩
  have AX : WArg w3' (.agg #[.bool gx, .slice ox lx cx]) nx lx := ⟨gx, _, Nt.val xs, rfl, ⟨xs, HX.out.below HK3.out, HXO.out, rfl, by have := HLX.out; omega⟩, hnx.symm⟩
  have AY : WArg w3' (.agg #[.bool gy, .slice oy ly cy]) ny ly := ⟨gy, _, Nt.val ys, rfl, ⟨ys, HY.out.below HK3.out, HYO.out, rfl, by have := HLY.out; omega⟩, hny.symm⟩
  have HAX := hide AX
  have HAY := hide AY
  clear AX AY hnx hny HX HY HXO HYO HLX HLY
  have hlx : lx ≤ 1048575 := by omega
  have hly : ly ≤ 1048575 := by omega
  clear big bigy hxl hyl
  go_upto_region 3 with fail
  go_cut [7, 8, 9] from 26 (fun s7 s8 s9 w' => ∃ z b1 k1 g1 o1 l1 c1 t1 b2 k2 g2 o2 l2 c2 t2 b3 k3 g3 o3 l3 c3 t3, s7 = .pointer (some ⟨b1, 0, none⟩) ∧ Nv w' b1 k1 g1 o1 l1 c1 t1 lx (.w nx) ∧ s8 = .pointer (some ⟨b2, 0, none⟩) ∧ Nv w' b2 k2 g2 o2 l2 c2 t2 ly (.w ny) ∧ s9 = .pointer (some ⟨b3, 0, none⟩) ∧ Nv w' b3 k3 g3 o3 l3 c3 t3 100 z ∧ OfIs 9223372036854775808 4503599627370496 (-1074) 9218868437227405312 4503599627370496 (-1074) 9218868437227405312 (b % 9223372036854775808) (decide (9223372036854775808 ≤ b)) z ∧ Below w3'.heap.size w3' w')
  case first =>
    refine wpInvA (J := fun a0 up a w' => ∃ s36 s37 s38 s39 s40 s41 s7 s8 s9, a = (((((((((a0.put (some 36) s36).put (some 37) s37).put (some 38) s38).put (some 39) s39).put (some 40) s40).put (some 41) s41).put (some 7) s7).put (some 8) s8).put (some 9) s9) ∧ Below w3'.heap.size w3' w' ∧ LdO (up 0) s36 (.agg #[.bool gx, .slice ox lx cx]) ∧ ReO (up 1) w' s37 lx (fun z => z = .w nx) ∧ LdO (up 2) s38 (.agg #[.bool gy, .slice oy ly cy]) ∧ ReO (up 3) w' s39 ly (fun z => z = .w ny) ∧ LdO (up 4) s40 (.int .u64 b) ∧ ReO (up 5) w' s41 100 (fun z => OfIs 9223372036854775808 4503599627370496 (-1074) 9218868437227405312 4503599627370496 (-1074) 9218868437227405312 (b % 9223372036854775808) (decide (9223372036854775808 ≤ b)) z) ∧ AlO (up 6) (up 9) w3'.heap.size 32 w' s7 ∧ AlO (up 7) (up 10) w3'.heap.size 32 w' s8 ∧ AlO (up 8) (up 11) w3'.heap.size 32 w' s9 ∧ StO (up 9) (up 6) (up 1) w' s7 s37 ∧ StO (up 10) (up 7) (up 3) w' s8 s39 ∧ StO (up 11) (up 8) (up 5) w' s9 s41 ∧ UnO (up 6) (up 7) s7 s8 ∧ UnO (up 6) (up 8) s7 s9 ∧ UnO (up 7) (up 8) s8 s9) (by kernel_rfl) (by kernel_rfl) ?_ ?_ ?_
    · refine ⟨?q1_36, ?q1_37, ?q1_38, ?q1_39, ?q1_40, ?q1_41, ?q1_7, ?q1_8, ?q1_9, ?q1, (Below.refl _ _).drew, fun q => (by cases q), fun q => (by cases q), fun q => (by cases q), fun q => (by cases q), fun q => (by cases q), fun q => (by cases q), fun q => (by cases q), fun q => (by cases q), fun q => (by cases q), fun q => (by cases q), fun q => (by cases q), fun q => (by cases q), fun q => (by cases q), fun q => (by cases q), fun q => (by cases q)⟩
      case q1 =>
        simp only [Act.put, List.setIfInBounds_toArray, List.set_cons_zero, List.set_cons_succ]
        rfl
    · rintro up a wx i o ho ⟨s36, s37, s38, s39, s40, s41, s7, s8, s9, rfl, KW, o0, o1, o2, o3, o4, o5, o6, o7, o8, o9, o10, o11, n01, n02, n12⟩ hu hm K hK
      simp only [Act.put, List.setIfInBounds_toArray, List.set_cons_zero, List.set_cons_succ]
      have hi : i < 12 := (Array.getElem?_eq_some_iff.1 ho).1
      match i, hi with
      | 0, _ =>
        cases ho
        rw [if_pos (by rfl)]
        have p := (HCx3.out.below KW).c0
        have q := (HCx3.out.below KW).c1
        go_simp
        refine hK (fun k => if k = 0 then true else up k) _ _ rfl (fun k hk => if_neg hk) (⟨_, s37, s38, s39, s40, s41, s7, s8, s9, ?_, KW, (fun _ => rfl : _), (o1 : _), (o2 : _), (o3 : _), (o4 : _), (o5 : _), (o6 : _), (o7 : _), (o8 : _), (o9 : _), (o10 : _), (o11 : _), (n01 : _), (n02 : _), (n12 : _)⟩)
        simp only [Act.put, List.setIfInBounds_toArray, List.set_cons_zero, List.set_cons_succ]
      | 1, _ =>
        cases ho
        rw [if_pos (by rfl)]
        simp [MetB, Region.binds] at hm
        obtain rfl := o0 (by simp [hm])
        go_simp
        go_at_call 5
        with_reducible refine (nofint_any (HAX.out.below KW) (by omega)).mono ?_
        rintro e wn ⟨v_t, rfl, hN, hb⟩
        refine hK (fun k => if k = 1 then true else up k) _ _ rfl (fun k hk => if_neg hk) (⟨_, _, s38, s39, s40, s41, s7, s8, s9, ?_, below_trans KW hb, (o0 : _), (fun _ => ⟨_, hN, rfl⟩ : _), (o2 : _), (o3.below hb : _), (o4 : _), (o5.below hb : _), (o6.below hb : _), (o7.below hb : _), (o8.below hb : _), (o9.off (Or.inr hu) : _), (o10.below hb : _), (o11.below hb : _), (n01 : _), (n02 : _), (n12 : _)⟩)
        simp only [Act.put, List.setIfInBounds_toArray, List.set_cons_zero, List.set_cons_succ]
      | 2, _ =>
        cases ho
        rw [if_pos (by rfl)]
        have p := (HCy3.out.below KW).c0
        have q := (HCy3.out.below KW).c1
        go_simp
        refine hK (fun k => if k = 2 then true else up k) _ _ rfl (fun k hk => if_neg hk) (⟨s36, s37, _, s39, s40, s41, s7, s8, s9, ?_, KW, (o0 : _), (o1 : _), (fun _ => rfl : _), (o3 : _), (o4 : _), (o5 : _), (o6 : _), (o7 : _), (o8 : _), (o9 : _), (o10 : _), (o11 : _), (n01 : _), (n02 : _), (n12 : _)⟩)
        simp only [Act.put, List.setIfInBounds_toArray, List.set_cons_zero, List.set_cons_succ]
      | 3, _ =>
        cases ho
        rw [if_pos (by rfl)]
        simp [MetB, Region.binds] at hm
        obtain rfl := o2 (by simp [hm])
        go_simp
        go_at_call 5
        with_reducible refine (nofint_any (HAY.out.below KW) (by omega)).mono ?_
        rintro e wn ⟨v_t, rfl, hN, hb⟩
        refine hK (fun k => if k = 3 then true else up k) _ _ rfl (fun k hk => if_neg hk) (⟨s36, s37, _, _, s40, s41, s7, s8, s9, ?_, below_trans KW hb, (o0 : _), (o1.below hb : _), (o2 : _), (fun _ => ⟨_, hN, rfl⟩ : _), (o4 : _), (o5.below hb : _), (o6.below hb : _), (o7.below hb : _), (o8.below hb : _), (o9.below hb : _), (o10.off (Or.inr hu) : _), (o11.below hb : _), (n01 : _), (n02 : _), (n12 : _)⟩)
        simp only [Act.put, List.setIfInBounds_toArray, List.set_cons_zero, List.set_cons_succ]
      | 4, _ =>
        cases ho
        rw [if_pos (by rfl)]
        go_simp
        refine hK (fun k => if k = 4 then true else up k) _ _ rfl (fun k hk => if_neg hk) (⟨s36, s37, s38, s39, _, s41, s7, s8, s9, ?_, KW, (o0 : _), (o1 : _), (o2 : _), (o3 : _), (fun _ => rfl : _), (o5 : _), (o6 : _), (o7 : _), (o8 : _), (o9 : _), (o10 : _), (o11 : _), (n01 : _), (n02 : _), (n12 : _)⟩)
        simp only [Act.put, List.setIfInBounds_toArray, List.set_cons_zero, List.set_cons_succ]
      | 5, _ =>
        cases ho
        rw [if_pos (by rfl)]
        simp [MetB, Region.binds] at hm
        obtain rfl := o4 (by simp [hm])
        go_simp
        go_at_call 6
        with_reducible refine (nof_64 (HL.out.below (below_trans HK3.out KW)) (HT.out.below (below_trans HK3.out KW)) b hb0 hb1).mono ?_
        rintro e wn ⟨v_t, z_t, rfl, hN, hZ, hb⟩
        refine hK (fun k => if k = 5 then true else up k) _ _ rfl (fun k hk => if_neg hk) (⟨s36, s37, s38, s39, _, _, s7, s8, s9, ?_, below_trans KW hb, (o0 : _), (o1.below hb : _), (o2 : _), (o3.below hb : _), (o4 : _), (fun _ => ⟨_, hN, hZ⟩ : _), (o6.below hb : _), (o7.below hb : _), (o8.below hb : _), (o9.below hb : _), (o10.below hb : _), (o11.off (Or.inr hu) : _), (n01 : _), (n02 : _), (n12 : _)⟩)
        simp only [Act.put, List.setIfInBounds_toArray, List.set_cons_zero, List.set_cons_succ]
      | 6, _ =>
        cases ho
        rw [if_pos (by rfl)]
        go_simp
        refine hK (fun k => if k = 6 then true else up k) _ _ rfl (fun k hk => if_neg hk) (⟨s36, s37, s38, s39, s40, s41, _, s8, s9, ?_, below_trans KW (bel_new _ _), (o0 : _), (o1.below (bel_new _ _) : _), (o2 : _), (o3.below (bel_new _ _) : _), (o4 : _), (o5.below (bel_new _ _) : _), (AlO.new KW.size _ : _), (o7.below (bel_new _ _) : _), (o8.below (bel_new _ _) : _), (o9.off (Or.inl hu) : _), (o10.below (bel_new _ _) : _), (o11.below (bel_new _ _) : _), (o7.unlike' : _), (o8.unlike' : _), (n12 : _)⟩)
        simp only [Act.put, List.setIfInBounds_toArray, List.set_cons_zero, List.set_cons_succ]
      | 7, _ =>
        cases ho
        rw [if_pos (by rfl)]
        go_simp
        refine hK (fun k => if k = 7 then true else up k) _ _ rfl (fun k hk => if_neg hk) (⟨s36, s37, s38, s39, s40, s41, s7, _, s9, ?_, below_trans KW (bel_new _ _), (o0 : _), (o1.below (bel_new _ _) : _), (o2 : _), (o3.below (bel_new _ _) : _), (o4 : _), (o5.below (bel_new _ _) : _), (o6.below (bel_new _ _) : _), (AlO.new KW.size _ : _), (o8.below (bel_new _ _) : _), (o9.below (bel_new _ _) : _), (o10.off (Or.inl hu) : _), (o11.below (bel_new _ _) : _), (o6.unlike : _), (n02 : _), (o8.unlike' : _)⟩)
        simp only [Act.put, List.setIfInBounds_toArray, List.set_cons_zero, List.set_cons_succ]
      | 8, _ =>
        cases ho
        rw [if_pos (by rfl)]
        go_simp
        refine hK (fun k => if k = 8 then true else up k) _ _ rfl (fun k hk => if_neg hk) (⟨s36, s37, s38, s39, s40, s41, s7, s8, _, ?_, below_trans KW (bel_new _ _), (o0 : _), (o1.below (bel_new _ _) : _), (o2 : _), (o3.below (bel_new _ _) : _), (o4 : _), (o5.below (bel_new _ _) : _), (o6.below (bel_new _ _) : _), (o7.below (bel_new _ _) : _), (AlO.new KW.size _ : _), (o9.below (bel_new _ _) : _), (o10.below (bel_new _ _) : _), (o11.off (Or.inl hu) : _), (n01 : _), (o6.unlike : _), (o7.unlike : _)⟩)
        simp only [Act.put, List.setIfInBounds_toArray, List.set_cons_zero, List.set_cons_succ]
      | 9, _ =>
        cases ho
        rw [if_pos (by rfl)]
        simp [MetB, Region.binds] at hm
        obtain ⟨c, rfl, hc, hlt, hz⟩ := o6 (by simp [hm])
        obtain ⟨z_t, hN, hP⟩ := o1 (by simp [hm])
        obtain ⟨kt, gt, ot, lt, ct, tt, rfl⟩ := nrd_shape hN
        have hg := hz hu
        obtain ⟨p0, p1, p2', p3, p4, p5, p6, p7, f0, f1, f2, f3, f4, f5, f6, f7⟩ := cells8 hg
        go_simp
        refine hK (fun k => if k = 9 then true else up k) _ _ rfl (fun k hk => if_neg hk) (⟨s36, _, s38, s39, s40, s41, _, s8, s9, ?_, set8_below KW hc, (o0 : _), (o1.put hg : _), (o2 : _), (o3.put hg : _), (o4 : _), (o5.put hg : _), (o6.done : _), (o7.put (fun e => n01.symm e (by simp [hm])) : _), (o8.put (fun e => n02.symm e (by simp [hm])) : _), (fun _ => ⟨by simp [hm], by simp [hm], c, _, _, _, _, _, _, _, _, rfl, rfl, bx8_put hg⟩ : _), (o10.away (fun e => n01.symm (o10 e).1 (by simp [hm])) : _), (o11.away (fun e => n02.symm (o11 e).1 (by simp [hm])) : _), (n01 : _), (n02 : _), (n12 : _)⟩)
        simp only [Act.put, List.setIfInBounds_toArray, List.set_cons_zero, List.set_cons_succ]
      | 10, _ =>
        cases ho
        rw [if_pos (by rfl)]
        simp [MetB, Region.binds] at hm
        obtain ⟨c, rfl, hc, hlt, hz⟩ := o7 (by simp [hm])
        obtain ⟨z_t, hN, hP⟩ := o3 (by simp [hm])
        obtain ⟨kt, gt, ot, lt, ct, tt, rfl⟩ := nrd_shape hN
        have hg := hz hu
        obtain ⟨p0, p1, p2', p3, p4, p5, p6, p7, f0, f1, f2, f3, f4, f5, f6, f7⟩ := cells8 hg
        go_simp
        refine hK (fun k => if k = 10 then true else up k) _ _ rfl (fun k hk => if_neg hk) (⟨s36, s37, s38, _, s40, s41, s7, _, s9, ?_, set8_below KW hc, (o0 : _), (o1.put hg : _), (o2 : _), (o3.put hg : _), (o4 : _), (o5.put hg : _), (o6.put (fun e => n01 e (by simp [hm])) : _), (o7.done : _), (o8.put (fun e => n12.symm e (by simp [hm])) : _), (o9.away (fun e => n01 (o9 e).1 (by simp [hm])) : _), (fun _ => ⟨by simp [hm], by simp [hm], c, _, _, _, _, _, _, _, _, rfl, rfl, bx8_put hg⟩ : _), (o11.away (fun e => n12.symm (o11 e).1 (by simp [hm])) : _), (n01 : _), (n02 : _), (n12 : _)⟩)
        simp only [Act.put, List.setIfInBounds_toArray, List.set_cons_zero, List.set_cons_succ]
      | 11, _ =>
        cases ho
        rw [if_pos (by rfl)]
        simp [MetB, Region.binds] at hm
        obtain ⟨c, rfl, hc, hlt, hz⟩ := o8 (by simp [hm])
        obtain ⟨z_t, hN, hP⟩ := o5 (by simp [hm])
        obtain ⟨kt, gt, ot, lt, ct, tt, rfl⟩ := nrd_shape hN
        have hg := hz hu
        obtain ⟨p0, p1, p2', p3, p4, p5, p6, p7, f0, f1, f2, f3, f4, f5, f6, f7⟩ := cells8 hg
        go_simp
        refine hK (fun k => if k = 11 then true else up k) _ _ rfl (fun k hk => if_neg hk) (⟨s36, s37, s38, s39, s40, _, s7, s8, _, ?_, set8_below KW hc, (o0 : _), (o1.put hg : _), (o2 : _), (o3.put hg : _), (o4 : _), (o5.put hg : _), (o6.put (fun e => n02 e (by simp [hm])) : _), (o7.put (fun e => n12 e (by simp [hm])) : _), (o8.done : _), (o9.away (fun e => n02 (o9 e).1 (by simp [hm])) : _), (o10.away (fun e => n12 (o10 e).1 (by simp [hm])) : _), (fun _ => ⟨by simp [hm], by simp [hm], c, _, _, _, _, _, _, _, _, rfl, rfl, bx8_put hg⟩ : _), (n01 : _), (n02 : _), (n12 : _)⟩)
        simp only [Act.put, List.setIfInBounds_toArray, List.set_cons_zero, List.set_cons_succ]
    · rintro up a wx ⟨s36, s37, s38, s39, s40, s41, s7, s8, s9, rfl, KW, o0, o1, o2, o3, o4, o5, o6, o7, o8, o9, o10, o11, n01, n02, n12⟩ hall
      simp only [Act.put, List.setIfInBounds_toArray, List.set_cons_zero, List.set_cons_succ]
      obtain ⟨-, -, b1, x0, x1, x2, x3, x4, x5, x6, x7, rfl, er1, C1⟩ := o9 (hall 9 (by decide))
      obtain ⟨z1, N1, hz1⟩ := o1 (hall 1 (by decide))
      obtain ⟨k1, g1, o1', l1, c1, t1, rfl⟩ := nrd_shape N1
      cases er1
      subst hz1
      obtain ⟨-, -, b2, x0, x1, x2, x3, x4, x5, x6, x7, rfl, er2, C2⟩ := o10 (hall 10 (by decide))
      obtain ⟨z2, N2, hz2⟩ := o3 (hall 3 (by decide))
      obtain ⟨k2, g2, o2', l2, c2, t2, rfl⟩ := nrd_shape N2
      cases er2
      subst hz2
      obtain ⟨-, -, b3, x0, x1, x2, x3, x4, x5, x6, x7, rfl, er3, C3⟩ := o11 (hall 11 (by decide))
      obtain ⟨z3, N3, hz3⟩ := o5 (hall 5 (by decide))
      obtain ⟨k3, g3, o3', l3, c3, t3, rfl⟩ := nrd_shape N3
      cases er3
      go_wp2_with fail
      go_meet
      case rel => exact ⟨z3, b1, _, _, _, _, _, _, b2, _, _, _, _, _, _, b3, _, _, _, _, _, _, rfl, ⟨C1, N1⟩, rfl, ⟨C2, N2⟩, rfl, ⟨C3, N3⟩, hz3, KW⟩
  case rest =>
  obtain ⟨z, b1, k1, g1, o1, l1, c1, t1, b2, k2, g2, o2, l2, c2, t2, b3, k3, g3, o3, l3, c3, t3, rfl, M1, rfl, M2, rfl, M3, hZ, K⟩ := hcut
  rename World => w4
  have HM1 := hide M1
  have HM2 := hide M2
  have HM3 := hide M3
  have HZ := hide hZ
  have HX := hide (HCx3.out.below K)
  have HY := hide (HCy3.out.below K)
  replace HAX := hide (HAX.out.below K)
  replace HAY := hide (HAY.out.below K)
  have HK := hide (below_trans HK3.out K)
  clear M1 M2 M3 hZ K HCx3 HCy3 HK3
  obtain ⟨c, hc⟩ : ∃ c, sgn nx ny = c := ⟨_, rfl⟩
  have HC := hide hc
  clear hc
  have HE := hide (show ncmp64 (.w nx) (.w ny) = (c, true) by rw [← HC.out]; rfl)
  obtain ⟨p0', p1', p2', p3', p4', p5', p6', p7'⟩ := HM1.out.bx
  obtain ⟨r0', r1', r2', r3', r4', r5', r6', r7'⟩ := HM2.out.bx
  go_wp2_with fail
  with_reducible refine (ncmp_is (HL.out.below HK.out) (HT.out.below HK.out) (HU.out.below HK.out) HM1.out.rd HM2.out.rd (by omega) (by omega) HE.out).mono ?_
  rintro e w5 ⟨rfl, K⟩
  clear p0' p1' p2' p3' p4' p5' p6' p7' r0' r1' r2' r3' r4' r5' r6' r7'
  replace HM1 := hide (HM1.out.below K)
  replace HM2 := hide (HM2.out.below K)
  replace HM3 := hide (HM3.out.below K)
  replace HX := hide (HX.out.below K)
  replace HY := hide (HY.out.below K)
  replace HAX := hide (HAX.out.below K)
  replace HAY := hide (HAY.out.below K)
  replace HK := hide (below_trans HK.out K)
  clear K
  have d0 := HX.out.c0
  have d1 := HX.out.c1
  have e0 := HY.out.c0
  have e1 := HY.out.c1
  go_wp2_with fail
  with_reducible refine (wcmp_any HAX.out HAY.out (by omega) (by omega)).mono ?_
  rintro e w6 ⟨rfl, K⟩
  rw [HC.out]
  clear d0 d1 e0 e1
  replace HM1 := hide (HM1.out.below K)
  replace HM2 := hide (HM2.out.below K)
  replace HM3 := hide (HM3.out.below K)
  replace HX := hide (HX.out.below K)
  replace HY := hide (HY.out.below K)
  replace HAX := hide (HAX.out.below K)
  replace HAY := hide (HAY.out.below K)
  replace HK := hide (below_trans HK.out K)
  clear K
  clear HX HY HAX HAY
  go_upto_region 7 with fail
  have CC : ∀ u : World, Below w6.heap.size w6 u → u.cell? ⟨b1, 0, none⟩ = some (.int .i8 k1) ∧ u.cell? ⟨b1, 1, none⟩ = some (.int .u64 0) ∧ u.cell? ⟨b1, 2, none⟩ = some (.bool g1) ∧ u.cell? ⟨b1, 3, none⟩ = some (.slice o1 l1 c1) ∧ u.cell? ⟨b1, 4, none⟩ = some (.int .u64 t1) ∧ u.cell? ⟨b1, 5, none⟩ = some (.int .i8 0) ∧ u.cell? ⟨b1, 6, none⟩ = some (.string ⟨#[]⟩) ∧ u.cell? ⟨b1, 7, none⟩ = some (.slice none 0 0) := fun u hu => (HM1.out.below hu).bx
  have K : Below w6.heap.size w6 w6.drew := (Below.refl _ _).drew
  have HC0 := CC _ K
  refine wpHl.region0 (C := fun u => u.cell? ⟨b1, 0, none⟩ = some (.int .i8 k1) ∧ u.cell? ⟨b1, 1, none⟩ = some (.int .u64 0) ∧ u.cell? ⟨b1, 2, none⟩ = some (.bool g1) ∧ u.cell? ⟨b1, 3, none⟩ = some (.slice o1 l1 c1) ∧ u.cell? ⟨b1, 4, none⟩ = some (.int .u64 t1) ∧ u.cell? ⟨b1, 5, none⟩ = some (.int .i8 0) ∧ u.cell? ⟨b1, 6, none⟩ = some (.string ⟨#[]⟩) ∧ u.cell? ⟨b1, 7, none⟩ = some (.slice none 0 0)) (by kernel_rfl) (by kernel_rfl) (fun HS => ?_)
  refine wpHl.tk0 (i := 0) (d := some 58) (v := .agg #[.int .i8 k1, .int .u64 0, .bool g1, .slice o1 l1 c1, .int .u64 t1, .int .i8 0, .string ⟨#[]⟩, .slice none 0 0]) rfl HS (by as_aux_lemma => kernel_rfl) rfl (fun _ _ _ h => h) (Or.inl ⟨by rfl, ?_⟩) HC0 ?_
  · intro u hC
    obtain ⟨z0, z1, z2, z3, z4, z5, z6, z7⟩ := hC
    go_simp
  simp only [Act.put, List.setIfInBounds_toArray, List.set_cons_zero, List.set_cons_succ]
  refine wpHl.one (i := 1) (by as_aux_lemma => kernel_rfl) rfl (fun K1 hK1 => ?_)
  rw [if_pos (by rfl)]
  refine wp_call_of (f := 6) (args := #[.int .u64 18442240474082181120]) (by kernel_rfl) ?_
  with_reducible refine (nof_64 (HL.out.below (below_trans HK.out K)) (HT.out.below (below_trans HK.out K)) 18442240474082181120 (by decide) (by decide)).mono ?_
  rintro e wn7 ⟨va, za, rfl, hNa, hza, hb⟩
  replace K := below_trans K hb
  obtain ⟨ka, ga, oa, la, ca, ta, rfl⟩ := nrd_shape hNa
  have HNa := hide hNa
  clear hNa
  have HZa := hide hza
  clear hza
  clear HC0
  have HC0 := CC _ K
  refine hK1 (Act.put _ (some 59) _) _ ⟨fun _ => HC0, ?_⟩
  clear hK1 K1 hb
  try simp only [Act.put, List.setIfInBounds_toArray, List.set_cons_zero, List.set_cons_succ]
  refine wpHl.one (i := 2) (by as_aux_lemma => kernel_rfl) rfl (fun K1 hK1 => ?_)
  rw [if_pos (by rfl)]
  refine wp_call_of (f := 7) (args := #[.agg #[.int .i8 k1, .int .u64 0, .bool g1, .slice o1 l1 c1, .int .u64 t1, .int .i8 0, .string ⟨#[]⟩, .slice none 0 0], .agg #[.int .i8 ka, .int .u64 0, .bool ga, .slice oa la ca, .int .u64 ta, .int .i8 0, .string ⟨#[]⟩, .slice none 0 0]]) (by kernel_rfl) ?_
  with_reducible refine (ncmp_is (HL.out.below (below_trans HK.out K)) (HT.out.below (below_trans HK.out K)) (HU.out.below (below_trans HK.out K)) (HM1.out.below K).rd HNa.out (by omega) (by omega) (low_of HZa.out nx)).mono ?_
  rintro e wn7 ⟨rfl, hb⟩
  replace K := below_trans K hb
  clear HC0
  have HC0 := CC _ K
  refine hK1 (Act.put _ (some 60) _) _ ⟨fun _ => HC0, ?_⟩
  clear hK1 K1 hb
  try simp only [Act.put, List.setIfInBounds_toArray, List.set_cons_zero, List.set_cons_succ]
  refine wpHl.tk0 (i := 3) (d := some 57) (v := .tuple #[.int .i64 (1), .bool true]) rfl HS (by as_aux_lemma => kernel_rfl) rfl (fun _ _ _ h => h) (Or.inl ⟨by rfl, ?_⟩) HC0 ?_
  · intro u hC
    go_simp
  simp only [Act.put, List.setIfInBounds_toArray, List.set_cons_zero, List.set_cons_succ]
  refine wpHl.tk0 (i := 4) (d := some 61) (v := .int .i64 (1)) rfl HS (by as_aux_lemma => kernel_rfl) rfl (fun _ _ _ h => h) (Or.inl ⟨by rfl, ?_⟩) HC0 ?_
  · intro u hC
    go_simp
  simp only [Act.put, List.setIfInBounds_toArray, List.set_cons_zero, List.set_cons_succ]
  refine wpHl.tk0 (i := 5) (d := some 62) (v := .bool true) rfl HS (by as_aux_lemma => kernel_rfl) rfl (fun _ _ _ h => h) (Or.inl ⟨by rfl, ?_⟩) HC0 ?_
  · intro u hC
    go_simp
  simp only [Act.put, List.setIfInBounds_toArray, List.set_cons_zero, List.set_cons_succ]
  refine wpHl.tk0 (i := 6) (d := some 12) (v := .int .i64 (1)) rfl HS (by as_aux_lemma => kernel_rfl) rfl (fun _ _ _ h => h) (Or.inl ⟨by rfl, ?_⟩) HC0 ?_
  · intro u hC
    go_simp
  simp only [Act.put, List.setIfInBounds_toArray, List.set_cons_zero, List.set_cons_succ]
  refine wpHl.tk0 (i := 7) (d := some 13) (v := .bool true) rfl HS (by as_aux_lemma => kernel_rfl) rfl (fun _ _ _ h => h) (Or.inl ⟨by rfl, ?_⟩) HC0 ?_
  · intro u hC
    go_simp
  simp only [Act.put, List.setIfInBounds_toArray, List.set_cons_zero, List.set_cons_succ]
  refine wpHl.done (by as_aux_lemma => kernel_rfl) ?_ _
  clear CC HC0 HS
  clear HNa HZa
  replace HM1 := hide (HM1.out.below K)
  replace HM2 := hide (HM2.out.below K)
  replace HM3 := hide (HM3.out.below K)
  replace HK := hide (below_trans HK.out K)
  clear K
  go_upto_region 8 with fail
  have CC : ∀ u : World, Below wn7.heap.size wn7 u → u.cell? ⟨b1, 0, none⟩ = some (.int .i8 k1) ∧ u.cell? ⟨b1, 1, none⟩ = some (.int .u64 0) ∧ u.cell? ⟨b1, 2, none⟩ = some (.bool g1) ∧ u.cell? ⟨b1, 3, none⟩ = some (.slice o1 l1 c1) ∧ u.cell? ⟨b1, 4, none⟩ = some (.int .u64 t1) ∧ u.cell? ⟨b1, 5, none⟩ = some (.int .i8 0) ∧ u.cell? ⟨b1, 6, none⟩ = some (.string ⟨#[]⟩) ∧ u.cell? ⟨b1, 7, none⟩ = some (.slice none 0 0) := fun u hu => (HM1.out.below hu).bx
  have K : Below wn7.heap.size wn7 wn7.drew := (Below.refl _ _).drew
  have HC0 := CC _ K
  refine wpHl.region0 (C := fun u => u.cell? ⟨b1, 0, none⟩ = some (.int .i8 k1) ∧ u.cell? ⟨b1, 1, none⟩ = some (.int .u64 0) ∧ u.cell? ⟨b1, 2, none⟩ = some (.bool g1) ∧ u.cell? ⟨b1, 3, none⟩ = some (.slice o1 l1 c1) ∧ u.cell? ⟨b1, 4, none⟩ = some (.int .u64 t1) ∧ u.cell? ⟨b1, 5, none⟩ = some (.int .i8 0) ∧ u.cell? ⟨b1, 6, none⟩ = some (.string ⟨#[]⟩) ∧ u.cell? ⟨b1, 7, none⟩ = some (.slice none 0 0)) (by kernel_rfl) (by kernel_rfl) (fun HS => ?_)
  refine wpHl.tk0 (i := 0) (d := some 64) (v := .agg #[.int .i8 k1, .int .u64 0, .bool g1, .slice o1 l1 c1, .int .u64 t1, .int .i8 0, .string ⟨#[]⟩, .slice none 0 0]) rfl HS (by as_aux_lemma => kernel_rfl) rfl (fun _ _ _ h => h) (Or.inl ⟨by rfl, ?_⟩) HC0 ?_
  · intro u hC
    obtain ⟨z0, z1, z2, z3, z4, z5, z6, z7⟩ := hC
    go_simp
  simp only [Act.put, List.setIfInBounds_toArray, List.set_cons_zero, List.set_cons_succ]
  refine wpHl.one (i := 1) (by as_aux_lemma => kernel_rfl) rfl (fun K1 hK1 => ?_)
  rw [if_pos (by rfl)]
  refine wp_call_of (f := 9) (args := #[.int .u32 2139095040]) (by kernel_rfl) ?_
  with_reducible refine (nof_32 (HL.out.below (below_trans HK.out K)) (HT.out.below (below_trans HK.out K)) 2139095040 (by decide) (by decide)).mono ?_
  rintro e wn8 ⟨va, za, rfl, hNa, hza, hb⟩
  replace K := below_trans K hb
  obtain ⟨ka, ga, oa, la, ca, ta, rfl⟩ := nrd_shape hNa
  have HNa := hide hNa
  clear hNa
  have HZa := hide hza
  clear hza
  clear HC0
  have HC0 := CC _ K
  refine hK1 (Act.put _ (some 65) _) _ ⟨fun _ => HC0, ?_⟩
  clear hK1 K1 hb
  try simp only [Act.put, List.setIfInBounds_toArray, List.set_cons_zero, List.set_cons_succ]
  refine wpHl.one (i := 2) (by as_aux_lemma => kernel_rfl) rfl (fun K1 hK1 => ?_)
  rw [if_pos (by rfl)]
  refine wp_call_of (f := 7) (args := #[.agg #[.int .i8 k1, .int .u64 0, .bool g1, .slice o1 l1 c1, .int .u64 t1, .int .i8 0, .string ⟨#[]⟩, .slice none 0 0], .agg #[.int .i8 ka, .int .u64 0, .bool ga, .slice oa la ca, .int .u64 ta, .int .i8 0, .string ⟨#[]⟩, .slice none 0 0]]) (by kernel_rfl) ?_
  with_reducible refine (ncmp_is (HL.out.below (below_trans HK.out K)) (HT.out.below (below_trans HK.out K)) (HU.out.below (below_trans HK.out K)) (HM1.out.below K).rd HNa.out (by omega) (by omega) (high_of HZa.out nx)).mono ?_
  rintro e wn8 ⟨rfl, hb⟩
  replace K := below_trans K hb
  clear HC0
  have HC0 := CC _ K
  refine hK1 (Act.put _ (some 66) _) _ ⟨fun _ => HC0, ?_⟩
  clear hK1 K1 hb
  try simp only [Act.put, List.setIfInBounds_toArray, List.set_cons_zero, List.set_cons_succ]
  refine wpHl.tk0 (i := 3) (d := some 63) (v := .tuple #[.int .i64 (-1), .bool true]) rfl HS (by as_aux_lemma => kernel_rfl) rfl (fun _ _ _ h => h) (Or.inl ⟨by rfl, ?_⟩) HC0 ?_
  · intro u hC
    go_simp
  simp only [Act.put, List.setIfInBounds_toArray, List.set_cons_zero, List.set_cons_succ]
  refine wpHl.tk0 (i := 4) (d := some 67) (v := .int .i64 (-1)) rfl HS (by as_aux_lemma => kernel_rfl) rfl (fun _ _ _ h => h) (Or.inl ⟨by rfl, ?_⟩) HC0 ?_
  · intro u hC
    go_simp
  simp only [Act.put, List.setIfInBounds_toArray, List.set_cons_zero, List.set_cons_succ]
  refine wpHl.tk0 (i := 5) (d := some 68) (v := .bool true) rfl HS (by as_aux_lemma => kernel_rfl) rfl (fun _ _ _ h => h) (Or.inl ⟨by rfl, ?_⟩) HC0 ?_
  · intro u hC
    go_simp
  simp only [Act.put, List.setIfInBounds_toArray, List.set_cons_zero, List.set_cons_succ]
  refine wpHl.tk0 (i := 6) (d := some 14) (v := .int .i64 (-1)) rfl HS (by as_aux_lemma => kernel_rfl) rfl (fun _ _ _ h => h) (Or.inl ⟨by rfl, ?_⟩) HC0 ?_
  · intro u hC
    go_simp
  simp only [Act.put, List.setIfInBounds_toArray, List.set_cons_zero, List.set_cons_succ]
  refine wpHl.tk0 (i := 7) (d := some 15) (v := .bool true) rfl HS (by as_aux_lemma => kernel_rfl) rfl (fun _ _ _ h => h) (Or.inl ⟨by rfl, ?_⟩) HC0 ?_
  · intro u hC
    go_simp
  simp only [Act.put, List.setIfInBounds_toArray, List.set_cons_zero, List.set_cons_succ]
  refine wpHl.done (by as_aux_lemma => kernel_rfl) ?_ _
  clear CC HC0 HS
  clear HNa HZa
  replace HM1 := hide (HM1.out.below K)
  replace HM2 := hide (HM2.out.below K)
  replace HM3 := hide (HM3.out.below K)
  replace HK := hide (below_trans HK.out K)
  clear K
  obtain ⟨d, od, hd⟩ : ∃ d od, ncmp64 (.w nx) z = (d, od) := ⟨_, _, rfl⟩
  obtain ⟨f, of', hf⟩ : ∃ d od, ncmp64 (.w ny) z = (d, od) := ⟨_, _, rfl⟩
  have HD := hide hd
  have HF := hide hf
  clear hd hf
  go_upto_region 11 with fail
  obtain ⟨p0', p1', p2', p3', p4', p5', p6', p7'⟩ := HM1.out.bx
  obtain ⟨r0', r1', r2', r3', r4', r5', r6', r7'⟩ := HM3.out.bx
  go_wp2_with fail
  with_reducible refine (ncmp_is (HL.out.below HK.out) (HT.out.below HK.out) (HU.out.below HK.out) HM1.out.rd HM3.out.rd (by omega) (by omega) HD.out).mono ?_
  rintro e w9 ⟨rfl, K⟩
  clear p0' p1' p2' p3' p4' p5' p6' p7' r0' r1' r2' r3' r4' r5' r6' r7'
  replace HM1 := hide (HM1.out.below K)
  replace HM2 := hide (HM2.out.below K)
  replace HM3 := hide (HM3.out.below K)
  replace HK := hide (below_trans HK.out K)
  clear K
  obtain ⟨p0', p1', p2', p3', p4', p5', p6', p7'⟩ := HM2.out.bx
  obtain ⟨r0', r1', r2', r3', r4', r5', r6', r7'⟩ := HM3.out.bx
  go_wp2_with fail
  with_reducible refine (ncmp_is (HL.out.below HK.out) (HT.out.below HK.out) (HU.out.below HK.out) HM2.out.rd HM3.out.rd (by omega) (by omega) HF.out).mono ?_
  rintro e w10 ⟨rfl, K⟩
  clear p0' p1' p2' p3' p4' p5' p6' p7' r0' r1' r2' r3' r4' r5' r6' r7'
  replace HM1 := hide (HM1.out.below K)
  replace HM2 := hide (HM2.out.below K)
  replace HM3 := hide (HM3.out.below K)
  replace HK := hide (below_trans HK.out K)
  clear K
  clear HM1 HM2
  go_wp2_with fail
  with_reducible refine (nnan_any (HL.out.below HK.out) b hb0 hb1).mono ?_
  rintro e w11 ⟨rfl, K⟩
  replace HM3 := hide (HM3.out.below K)
  replace HK := hide (below_trans HK.out K)
  clear K
  by_cases nan : 9218868437227405312 < b % 9223372036854775808
  · rw [decide_eq_true nan]
    have q1 := HD.out.symm.trans (ord_nan hb0 hb1 HZ.out nan)
    have q2 := HF.out.symm.trans (ord_nan hb0 hb1 HZ.out nan)
    cases q1
    cases q2
    clear nan HM3
    go_wp2_with fail
    with_reducible refine (nlives (HL.out.below HK.out) (HT.out.below HK.out) (HU.out.below HK.out)).mono ?_
    rintro e w99 ⟨rfl, K⟩
    go_wp2
    go_ret
    exact ⟨rfl, below_trans HK.out K⟩
  rw [decide_eq_false nan]
  obtain ⟨d', f', hd, hf, n1, n2⟩ := ord_num (n := nx) (m := ny) hb0 hb1 HZ.out nan
  have q1 := HD.out.symm.trans hd
  have q2 := HF.out.symm.trans hf
  cases q1
  cases q2
  rw [HC.out] at n1 n2
  clear hd hf HD HF HC
  go_upto_region 15 with fail
  go_cut [143] from 114 (fun s143 w' => s143 = .bool false ∧ w' = w11)
  case first =>
    by_cases a1 : d ≤ 0 <;> by_cases a2 : 0 ≤ f <;> by_cases a3 : 0 < c <;> by_cases a4 : d < 0 <;> by_cases a5 : 0 ≤ c <;> first
      | (exfalso; omega)
      | (clear n1 n2 nan; go_wp2_with fail; go_meet; case rel => exact ⟨rfl, rfl⟩)
  case rest =>
  obtain ⟨rfl, rfl⟩ := hcut
  clear n1 n2
  rcases of_cases wth64 hb0 hb1 HZ.out with ⟨hs, n, rfl, -⟩ | ⟨-, hs, rfl, n, hn⟩ | ⟨hs, rfl⟩ | ⟨hs, -⟩
  · have hk : k3 = 3 := by obtain ⟨g, m, a, hv, -⟩ := HM3.out.rd; simp [nvW] at hv; exact hv.1
    subst hk
    have r0 := HM3.out.bx.1
    clear nan hs
    go_wp2_with fail
    with_reducible refine (nlives (HL.out.below HK.out) (HT.out.below HK.out) (HU.out.below HK.out)).mono ?_
    rintro e w99 ⟨rfl, K⟩
    go_wp2
    go_ret
    exact ⟨rfl, below_trans HK.out K⟩
  · have hk : k3 = 4 := by obtain ⟨hv, -⟩ := HM3.out.rd; simp [nvF] at hv; exact hv.1
    subst hk
    have r0 := HM3.out.bx.1
    have HN := hide hn
    have HS := hide hs
    have hcl : (cls 9223372036854775808 4503599627370496 (b % 9223372036854775808) == 4) = false := by
      unfold cls; simp; (repeat' split) <;> omega
    generalize hq : cls 9223372036854775808 4503599627370496 (b % 9223372036854775808) = q at hcl
    have HQ := hide hq
    clear nan hs hn hq
    go_wp2_with fail
    with_reducible refine (class_64 (HL.out.below HK.out) b (b % 9223372036854775808) hb0 hb1 rfl).mono ?_
    rintro e w12 ⟨rfl, K⟩
    rw [HQ.out]
    clear r0
    replace HM3 := hide (HM3.out.below K)
    replace HK := hide (below_trans HK.out K)
    clear K
    go_wp2_with fail
    with_reducible refine (nfloor_any (HL.out.below HK.out) (HT.out.below HK.out) hb0 hb1 HS.out HN.out).mono ?_
    rintro e w13 ⟨vX, X, rfl, hA, hc1, hc2, K⟩
    have HA := hide hA
    have HC1 := hide hc1
    have HC2 := hide hc2
    obtain ⟨gn, mn, an, rfl, ⟨zs, ⟨on, cn, rfl, -⟩, -⟩, -⟩ := hA
    obtain ⟨ln, hln⟩ : ∃ ln, zs.length = ln := ⟨_, rfl⟩
    rw [hln] at HA ⊢
    clear hln hc1 hc2 hcl HQ HS HN
    replace HM3 := hide (HM3.out.below K)
    replace HK := hide (below_trans HK.out K)
    clear K
    have K := bel_new w13 (.cells #[.bool gn, .slice on ln cn] 25)
    have HCN := hide (cell2_new w13 (.bool gn) (.slice on ln cn) 25)
    have HAN := hide (HA.out.below K)
    clear HA
    replace HM3 := hide (HM3.out.below K)
    replace HK := hide (below_trans HK.out K)
    clear K
    go_upto_region 21 with fail
    obtain ⟨w14, h14⟩ : ∃ w14, w13.alloc (.cells #[.bool gn, .slice on ln cn] 25) = w14 := ⟨_, rfl⟩
    rw [h14] at HCN HAN HM3 HK ⊢
    obtain ⟨bn, hbn⟩ : ∃ bn, w13.heap.size = bn := ⟨_, rfl⟩
    rw [hbn] at HCN ⊢
    clear h14 hbn
    have CC : ∀ u : World, Below w14.heap.size w14 u → u.cell? ⟨bn, 0, none⟩ = some (.bool gn) ∧ u.cell? ⟨bn, 1, none⟩ = some (.slice on ln cn) ∧ u.cell? ⟨b3, 0, none⟩ = some (.int .i8 4) ∧ u.cell? ⟨b3, 1, none⟩ = some (.int .u64 0) ∧ u.cell? ⟨b3, 2, none⟩ = some (.bool g3) ∧ u.cell? ⟨b3, 3, none⟩ = some (.slice o3 l3 c3) ∧ u.cell? ⟨b3, 4, none⟩ = some (.int .u64 t3) ∧ u.cell? ⟨b3, 5, none⟩ = some (.int .i8 0) ∧ u.cell? ⟨b3, 6, none⟩ = some (.string ⟨#[]⟩) ∧ u.cell? ⟨b3, 7, none⟩ = some (.slice none 0 0) := fun u hu => ⟨(HCN.out.below hu).c0, (HCN.out.below hu).c1, (HM3.out.below hu).bx⟩
    have K : Below w14.heap.size w14 w14.drew := (Below.refl _ _).drew
    have HC0 := CC _ K
    refine wpHl.region0 (C := fun u => u.cell? ⟨bn, 0, none⟩ = some (.bool gn) ∧ u.cell? ⟨bn, 1, none⟩ = some (.slice on ln cn) ∧ u.cell? ⟨b3, 0, none⟩ = some (.int .i8 4) ∧ u.cell? ⟨b3, 1, none⟩ = some (.int .u64 0) ∧ u.cell? ⟨b3, 2, none⟩ = some (.bool g3) ∧ u.cell? ⟨b3, 3, none⟩ = some (.slice o3 l3 c3) ∧ u.cell? ⟨b3, 4, none⟩ = some (.int .u64 t3) ∧ u.cell? ⟨b3, 5, none⟩ = some (.int .i8 0) ∧ u.cell? ⟨b3, 6, none⟩ = some (.string ⟨#[]⟩) ∧ u.cell? ⟨b3, 7, none⟩ = some (.slice none 0 0)) (by kernel_rfl) (by kernel_rfl) (fun HS => ?_)
    refine wpHl.tk0 (i := 0) (d := some 161) (v := .agg #[.bool gn, .slice on ln cn]) rfl HS (by as_aux_lemma => kernel_rfl) rfl (fun _ _ _ h => h) (Or.inl ⟨by rfl, ?_⟩) HC0 ?_
    · intro u hC
      obtain ⟨z0, z1, z2, z3, z4, z5, z6, z7, z8, z9⟩ := hC
      go_simp
    simp only [Act.put, List.setIfInBounds_toArray, List.set_cons_zero, List.set_cons_succ]
    refine wpHl.tk0 (i := 2) (d := some 163) (v := .agg #[.int .i8 4, .int .u64 0, .bool g3, .slice o3 l3 c3, .int .u64 t3, .int .i8 0, .string ⟨#[]⟩, .slice none 0 0]) rfl HS (by as_aux_lemma => kernel_rfl) rfl (fun _ _ _ h => h) (Or.inl ⟨by rfl, ?_⟩) HC0 ?_
    · intro u hC
      obtain ⟨z0, z1, z2, z3, z4, z5, z6, z7, z8, z9⟩ := hC
      go_simp
    simp only [Act.put, List.setIfInBounds_toArray, List.set_cons_zero, List.set_cons_succ]
    refine wpHl.one (i := 1) (by as_aux_lemma => kernel_rfl) rfl (fun K1 hK1 => ?_)
    rw [if_pos (by rfl)]
    refine wp_call_of (f := 5) (args := #[.agg #[.bool gn, .slice on ln cn]]) (by kernel_rfl) ?_
    with_reducible refine (nofint_any (HAN.out.below K) (by omega)).mono ?_
    rintro e wn21 ⟨va, rfl, hNa, hb⟩
    replace K := below_trans K hb
    obtain ⟨ka, ga, oa, la, ca, ta, rfl⟩ := nrd_shape hNa
    have HNa := hide hNa
    clear hNa
    clear HC0
    have HC0 := CC _ K
    refine hK1 (Act.put _ (some 162) _) _ ⟨fun _ => HC0, ?_⟩
    clear hK1 K1 hb
    try simp only [Act.put, List.setIfInBounds_toArray, List.set_cons_zero, List.set_cons_succ]
    refine wpHl.one (i := 3) (by as_aux_lemma => kernel_rfl) rfl (fun K1 hK1 => ?_)
    rw [if_pos (by rfl)]
    refine wp_call_of (f := 7) (args := #[.agg #[.int .i8 ka, .int .u64 0, .bool ga, .slice oa la ca, .int .u64 ta, .int .i8 0, .string ⟨#[]⟩, .slice none 0 0], .agg #[.int .i8 4, .int .u64 0, .bool g3, .slice o3 l3 c3, .int .u64 t3, .int .i8 0, .string ⟨#[]⟩, .slice none 0 0]]) (by kernel_rfl) ?_
    with_reducible refine (ncmp_is (HL.out.below (below_trans HK.out K)) (HT.out.below (below_trans HK.out K)) (HU.out.below (below_trans HK.out K)) HNa.out (HM3.out.below K).rd (by omega) (by omega) HC1.out).mono ?_
    rintro e wn21 ⟨rfl, hb⟩
    replace K := below_trans K hb
    clear HC0
    have HC0 := CC _ K
    refine hK1 (Act.put _ (some 164) _) _ ⟨fun _ => HC0, ?_⟩
    clear hK1 K1 hb
    try simp only [Act.put, List.setIfInBounds_toArray, List.set_cons_zero, List.set_cons_succ]
    refine wpHl.tk0 (i := 4) (d := some 160) (v := .tuple #[.int .i64 (-1), .bool true]) rfl HS (by as_aux_lemma => kernel_rfl) rfl (fun _ _ _ h => h) (Or.inl ⟨by rfl, ?_⟩) HC0 ?_
    · intro u hC
      go_simp
    simp only [Act.put, List.setIfInBounds_toArray, List.set_cons_zero, List.set_cons_succ]
    refine wpHl.tk0 (i := 5) (d := some 165) (v := .int .i64 (-1)) rfl HS (by as_aux_lemma => kernel_rfl) rfl (fun _ _ _ h => h) (Or.inl ⟨by rfl, ?_⟩) HC0 ?_
    · intro u hC
      go_simp
    simp only [Act.put, List.setIfInBounds_toArray, List.set_cons_zero, List.set_cons_succ]
    refine wpHl.tk0 (i := 6) (d := some 166) (v := .bool true) rfl HS (by as_aux_lemma => kernel_rfl) rfl (fun _ _ _ h => h) (Or.inl ⟨by rfl, ?_⟩) HC0 ?_
    · intro u hC
      go_simp
    simp only [Act.put, List.setIfInBounds_toArray, List.set_cons_zero, List.set_cons_succ]
    refine wpHl.tk0 (i := 7) (d := some 22) (v := .int .i64 (-1)) rfl HS (by as_aux_lemma => kernel_rfl) rfl (fun _ _ _ h => h) (Or.inl ⟨by rfl, ?_⟩) HC0 ?_
    · intro u hC
      go_simp
    simp only [Act.put, List.setIfInBounds_toArray, List.set_cons_zero, List.set_cons_succ]
    refine wpHl.tk0 (i := 8) (d := some 23) (v := .bool true) rfl HS (by as_aux_lemma => kernel_rfl) rfl (fun _ _ _ h => h) (Or.inl ⟨by rfl, ?_⟩) HC0 ?_
    · intro u hC
      go_simp
    simp only [Act.put, List.setIfInBounds_toArray, List.set_cons_zero, List.set_cons_succ]
    refine wpHl.done (by as_aux_lemma => kernel_rfl) ?_ _
    clear CC HC0 HS
    clear HNa
    replace HM3 := hide (HM3.out.below K)
    replace HCN := hide (HCN.out.below K)
    replace HAN := hide (HAN.out.below K)
    replace HK := hide (below_trans HK.out K)
    clear K
    go_upto_region 22 with fail
    have CC : ∀ u : World, Below wn21.heap.size wn21 u → u.cell? ⟨bn, 0, none⟩ = some (.bool gn) ∧ u.cell? ⟨bn, 1, none⟩ = some (.slice on ln cn) ∧ u.cell? ⟨b3, 0, none⟩ = some (.int .i8 4) ∧ u.cell? ⟨b3, 1, none⟩ = some (.int .u64 0) ∧ u.cell? ⟨b3, 2, none⟩ = some (.bool g3) ∧ u.cell? ⟨b3, 3, none⟩ = some (.slice o3 l3 c3) ∧ u.cell? ⟨b3, 4, none⟩ = some (.int .u64 t3) ∧ u.cell? ⟨b3, 5, none⟩ = some (.int .i8 0) ∧ u.cell? ⟨b3, 6, none⟩ = some (.string ⟨#[]⟩) ∧ u.cell? ⟨b3, 7, none⟩ = some (.slice none 0 0) := fun u hu => ⟨(HCN.out.below hu).c0, (HCN.out.below hu).c1, (HM3.out.below hu).bx⟩
    have K : Below wn21.heap.size wn21 wn21.drew := (Below.refl _ _).drew
    have HC0 := CC _ K
    refine wpHl.region0 (C := fun u => u.cell? ⟨bn, 0, none⟩ = some (.bool gn) ∧ u.cell? ⟨bn, 1, none⟩ = some (.slice on ln cn) ∧ u.cell? ⟨b3, 0, none⟩ = some (.int .i8 4) ∧ u.cell? ⟨b3, 1, none⟩ = some (.int .u64 0) ∧ u.cell? ⟨b3, 2, none⟩ = some (.bool g3) ∧ u.cell? ⟨b3, 3, none⟩ = some (.slice o3 l3 c3) ∧ u.cell? ⟨b3, 4, none⟩ = some (.int .u64 t3) ∧ u.cell? ⟨b3, 5, none⟩ = some (.int .i8 0) ∧ u.cell? ⟨b3, 6, none⟩ = some (.string ⟨#[]⟩) ∧ u.cell? ⟨b3, 7, none⟩ = some (.slice none 0 0)) (by kernel_rfl) (by kernel_rfl) (fun HS => ?_)
    refine wpHl.tk0 (i := 0) (d := some 168) (v := .agg #[.int .i8 4, .int .u64 0, .bool g3, .slice o3 l3 c3, .int .u64 t3, .int .i8 0, .string ⟨#[]⟩, .slice none 0 0]) rfl HS (by as_aux_lemma => kernel_rfl) rfl (fun _ _ _ h => h) (Or.inl ⟨by rfl, ?_⟩) HC0 ?_
    · intro u hC
      obtain ⟨z0, z1, z2, z3, z4, z5, z6, z7, z8, z9⟩ := hC
      go_simp
    simp only [Act.put, List.setIfInBounds_toArray, List.set_cons_zero, List.set_cons_succ]
    refine wpHl.tk0 (i := 1) (d := some 169) (v := .agg #[.bool gn, .slice on ln cn]) rfl HS (by as_aux_lemma => kernel_rfl) rfl (fun _ _ _ h => h) (Or.inl ⟨by rfl, ?_⟩) HC0 ?_
    · intro u hC
      obtain ⟨z0, z1, z2, z3, z4, z5, z6, z7, z8, z9⟩ := hC
      go_simp
    simp only [Act.put, List.setIfInBounds_toArray, List.set_cons_zero, List.set_cons_succ]
    refine wpHl.one (i := 2) (by as_aux_lemma => kernel_rfl) rfl (fun K1 hK1 => ?_)
    rw [if_pos (by rfl)]
    refine wp_call_of (f := 15) (args := #[.int .i64 1]) (by kernel_rfl) ?_
    with_reducible refine (wfrom_any (n := 1) (by decide) (by decide)).mono ?_
    rintro e wn22 ⟨vo, rfl, hO, hb⟩
    replace K := below_trans K hb
    obtain ⟨ngo, roo, rlo, rfl⟩ := hO.told
    have HO := hide hO
    clear hO
    clear HC0
    have HC0 := CC _ K
    refine hK1 (Act.put _ (some 170) _) _ ⟨fun _ => HC0, ?_⟩
    clear hK1 K1 hb
    try simp only [Act.put, List.setIfInBounds_toArray, List.set_cons_zero, List.set_cons_succ]
    refine wpHl.one (i := 3) (by as_aux_lemma => kernel_rfl) rfl (fun K1 hK1 => ?_)
    rw [if_pos (by rfl)]
    refine wp_call_of (f := 14) (args := #[.agg #[.bool gn, .slice on ln cn], .agg #[.bool ngo, .slice roo rlo rlo]]) (by kernel_rfl) ?_
    with_reducible refine (wadd_any (HAN.out.below K) (by omega) HO.out.arg (by omega)).mono ?_
    rintro e wn22 ⟨vp, rfl, hP, hb⟩
    replace K := below_trans K hb
    obtain ⟨ngp, rop, rlp, rfl⟩ := hP.told
    have HP := hide hP
    clear hP HO
    clear HC0
    have HC0 := CC _ K
    refine hK1 (Act.put _ (some 171) _) _ ⟨fun _ => HC0, ?_⟩
    clear hK1 K1 hb
    try simp only [Act.put, List.setIfInBounds_toArray, List.set_cons_zero, List.set_cons_succ]
    refine wpHl.one (i := 4) (by as_aux_lemma => kernel_rfl) rfl (fun K1 hK1 => ?_)
    rw [if_pos (by rfl)]
    refine wp_call_of (f := 5) (args := #[.agg #[.bool ngp, .slice rop rlp rlp]]) (by kernel_rfl) ?_
    with_reducible refine (nofint_any HP.out.arg (by omega)).mono ?_
    rintro e wn22 ⟨va, rfl, hNa, hb⟩
    replace K := below_trans K hb
    obtain ⟨ka, ga, oa, la, ca, ta, rfl⟩ := nrd_shape hNa
    have HNa := hide hNa
    clear hNa
    clear HP
    clear HC0
    have HC0 := CC _ K
    refine hK1 (Act.put _ (some 172) _) _ ⟨fun _ => HC0, ?_⟩
    clear hK1 K1 hb
    try simp only [Act.put, List.setIfInBounds_toArray, List.set_cons_zero, List.set_cons_succ]
    refine wpHl.one (i := 5) (by as_aux_lemma => kernel_rfl) rfl (fun K1 hK1 => ?_)
    rw [if_pos (by rfl)]
    refine wp_call_of (f := 7) (args := #[.agg #[.int .i8 4, .int .u64 0, .bool g3, .slice o3 l3 c3, .int .u64 t3, .int .i8 0, .string ⟨#[]⟩, .slice none 0 0], .agg #[.int .i8 ka, .int .u64 0, .bool ga, .slice oa la ca, .int .u64 ta, .int .i8 0, .string ⟨#[]⟩, .slice none 0 0]]) (by kernel_rfl) ?_
    with_reducible refine (ncmp_is (HL.out.below (below_trans HK.out K)) (HT.out.below (below_trans HK.out K)) (HU.out.below (below_trans HK.out K)) (HM3.out.below K).rd HNa.out (by omega) (by omega) HC2.out).mono ?_
    rintro e wn22 ⟨rfl, hb⟩
    replace K := below_trans K hb
    clear HC0
    have HC0 := CC _ K
    refine hK1 (Act.put _ (some 173) _) _ ⟨fun _ => HC0, ?_⟩
    clear hK1 K1 hb
    try simp only [Act.put, List.setIfInBounds_toArray, List.set_cons_zero, List.set_cons_succ]
    refine wpHl.tk0 (i := 6) (d := some 167) (v := .tuple #[.int .i64 (-1), .bool true]) rfl HS (by as_aux_lemma => kernel_rfl) rfl (fun _ _ _ h => h) (Or.inl ⟨by rfl, ?_⟩) HC0 ?_
    · intro u hC
      go_simp
    simp only [Act.put, List.setIfInBounds_toArray, List.set_cons_zero, List.set_cons_succ]
    refine wpHl.tk0 (i := 7) (d := some 174) (v := .int .i64 (-1)) rfl HS (by as_aux_lemma => kernel_rfl) rfl (fun _ _ _ h => h) (Or.inl ⟨by rfl, ?_⟩) HC0 ?_
    · intro u hC
      go_simp
    simp only [Act.put, List.setIfInBounds_toArray, List.set_cons_zero, List.set_cons_succ]
    refine wpHl.tk0 (i := 8) (d := some 175) (v := .bool true) rfl HS (by as_aux_lemma => kernel_rfl) rfl (fun _ _ _ h => h) (Or.inl ⟨by rfl, ?_⟩) HC0 ?_
    · intro u hC
      go_simp
    simp only [Act.put, List.setIfInBounds_toArray, List.set_cons_zero, List.set_cons_succ]
    refine wpHl.tk0 (i := 9) (d := some 24) (v := .int .i64 (-1)) rfl HS (by as_aux_lemma => kernel_rfl) rfl (fun _ _ _ h => h) (Or.inl ⟨by rfl, ?_⟩) HC0 ?_
    · intro u hC
      go_simp
    simp only [Act.put, List.setIfInBounds_toArray, List.set_cons_zero, List.set_cons_succ]
    refine wpHl.tk0 (i := 10) (d := some 25) (v := .bool true) rfl HS (by as_aux_lemma => kernel_rfl) rfl (fun _ _ _ h => h) (Or.inl ⟨by rfl, ?_⟩) HC0 ?_
    · intro u hC
      go_simp
    simp only [Act.put, List.setIfInBounds_toArray, List.set_cons_zero, List.set_cons_succ]
    refine wpHl.done (by as_aux_lemma => kernel_rfl) ?_ _
    clear CC HC0 HS
    clear HNa
    replace HM3 := hide (HM3.out.below K)
    replace HCN := hide (HCN.out.below K)
    replace HAN := hide (HAN.out.below K)
    replace HK := hide (below_trans HK.out K)
    clear K
    clear HM3 HCN HAN
    go_wp2_with fail
    with_reducible refine (nlives (HL.out.below HK.out) (HT.out.below HK.out) (HU.out.below HK.out)).mono ?_
    rintro e w99 ⟨rfl, K⟩
    go_wp2
    go_ret
    exact ⟨rfl, below_trans HK.out K⟩
  · have hk : k3 = 4 := by obtain ⟨hv, -⟩ := HM3.out.rd; simp [nvF] at hv; exact hv.1
    subst hk
    have r0 := HM3.out.bx.1
    have hq : cls 9223372036854775808 4503599627370496 (b % 9223372036854775808) = 4 := by
      unfold cls; rw [if_neg (by omega), if_pos (by omega)]
    have HQ := hide hq
    clear nan hs hq
    go_wp2_with fail
    with_reducible refine (class_64 (HL.out.below HK.out) b (b % 9223372036854775808) hb0 hb1 rfl).mono ?_
    rintro e w12 ⟨rfl, K⟩
    rw [HQ.out]
    clear r0
    replace HK := hide (below_trans HK.out K)
    clear K
    go_wp2_with fail
    with_reducible refine (nlives (HL.out.below HK.out) (HT.out.below HK.out) (HU.out.below HK.out)).mono ?_
    rintro e w99 ⟨rfl, K⟩
    go_wp2
    go_ret
    exact ⟨rfl, below_trans HK.out K⟩
  · exfalso; omega

end Go.Proofs.YtnjbmegnfeecjaaGreatDoor
