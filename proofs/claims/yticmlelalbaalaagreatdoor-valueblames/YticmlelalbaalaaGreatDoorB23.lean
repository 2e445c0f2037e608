import Derived.Test.YticmlelalbaalaaGreatDoorB22
import Derived.Test.YticmlelalbaalaaGreatDoorB08
import Derived.Test.YticmlelalbaalaaGreatDoorB04
import Derived.Deep.RegionHeld3
namespace Go.Proofs.YticmlelalbaalaaGreatDoor
open Go.RowKit
set_option linter.unusedVariables false
theorem lx_assoc (a b c : Int) : lx (lx a b) c = lx a (lx b c) := by unfold lx; split <;> rfl
theorem lx_ne {a : Int} (h : a ≠ 0) (b : Int) : lx a b = a := by unfold lx; rw [if_neg h]
theorem lx_zer (b : Int) : lx 0 b = b := by unfold lx; rw [if_pos rfl]
theorem vcmp_five (x y : Va) : vcmp x y = lx (lx (sg3 x.kind y.kind) (lx (sg3 x.n y.n) (sg3 x.ext y.ext))) (lx (sg3 (vnum x) (vnum y)) (lx (sg3 (tkey x.bits) (tkey y.bits)) (lx (tcmp x.text y.text) (kcmp x.kids y.kids)))) := by
  rw [vcmp_eq, hcmp]
  simp only [lx_assoc]
theorem tri_key (a b : Int) : tri (rk 9223372036854775808 a) (rk 9223372036854775808 b) = sg3 (tkey a) (tkey b) := by
  have e : ∀ b, rk 9223372036854775808 b = tkey b + 9223372036854775808 := fun b => by unfold rk tkey; split <;> omega
  rw [e, e]
  unfold tri sg3
  simp only [Int.add_lt_add_iff_right]
theorem vor_made (W : World) (a b c : Int) : Calls Tryz.prog 49 #[.slice (some ⟨W.heap.size, 0, none⟩) 3 3] (W.alloc (.cells #[.int .i64 a, .int .i64 b, .int .i64 c] 3)).drew fun e w' => e = .returned (.int .i64 (lx a (lx b c))) ∧ Below W.heap.size W w' := by
  have K : Below W.heap.size W (W.alloc (.cells #[.int .i64 a, .int .i64 b, .int .i64 c] 3)).drew := (bel_new W _).drew
  refine (vor_three (a := a) (b := b) (c := c) ?_ ?_ ?_).mono ?_
  · show (W.alloc _).cell? _ = _
    rw [World.cell?_alloc_at _ _ _ _ rfl]; rfl
  · show (W.alloc _).cell? _ = _
    rw [World.cell?_alloc_at _ _ _ _ rfl]; rfl
  · show (W.alloc _).cell? _ = _
    rw [World.cell?_alloc_at _ _ _ _ rfl]; rfl
  · rintro e w' ⟨rfl, rfl⟩
    exact ⟨rfl, K⟩
set_option maxHeartbeats 16000000 in
set_option maxRecDepth 100000 in
theorem vcompare_step {x : Va} (hx : vpts x ≤ 1048576) (ih : ∀ k ∈ x.kids, CmpOf k) : CmpOf x := by
  intro w v v' y L h1 h2 hy
  obtain ⟨⟨vm1, vk1, rfl, hm1, hk1⟩, hw1⟩ := h1
  obtain ⟨⟨vm2, vk2, rfl, hm2, hk2⟩, hw2⟩ := h2
  have px : kpts x.kids ≤ 1048576 := by have := vpts_eq x; omega
  have py : kpts y.kids ≤ 1048576 := by have := vpts_eq y; omega
  have C1 : ∀ U, Below w.heap.size w U → Calls Tryz.prog 53 #[.agg #[.bool x.neg, vm1], .agg #[.bool y.neg, vm2]] U fun e w' => e = .returned (.int .i64 (sg3 (vnum x) (vnum y))) ∧ Below U.heap.size U w' := fun U k =>
    wcmp_any (k1 := x.mag.length) (k2 := y.mag.length) ⟨_, _, _, rfl, ⟨x.mag, hm1.below k, hw1.m, rfl, Nat.le_refl _⟩, rfl⟩ ⟨_, _, _, rfl, ⟨y.mag, hm2.below k, hw2.m, rfl, Nat.le_refl _⟩, rfl⟩ (by have := vpts_eq x; omega) (by have := vpts_eq y; omega)
  have C2 : ∀ U, Below w.heap.size w U → Calls Tryz.prog 54 #[.int .u64 x.bits, .int .u64 y.bits] U fun e w' => e = .returned (.int .i64 (sg3 (tkey x.bits) (tkey y.bits))) ∧ Below U.heap.size U w' := fun U k => by
    rw [← tri_key]
    exact total_64 (L.below k) _ _ hw1.b0 hw1.b1 hw2.b0 hw2.b1
  have C3 : ∀ U, Calls Tryz.prog 55 #[.string (strOfNums x.text), .string (strOfNums y.text)] U fun e w' => e = .returned (.int .i64 (tcmp x.text y.text)) ∧ w' = U := fun U => vcompare_str hw1.t hw2.t
  have C4 : ∀ U, Below w.heap.size w U → Calls Tryz.prog 56 #[vk1, vk2, .func (.func 19) #[] #[]] U fun e w' => e = .returned (.int .i64 (kcmp x.kids y.kids)) ∧ Below U.heap.size U w' := fun U k =>
    vfunc_any (L.below k) (hk1.far k) (hk2.far k) ih px py
  have E := vcmp_five x y
  obtain ⟨mo1, mc1, rfl, -, -⟩ : ∃ ao cap, vm1 = .slice ao x.mag.length cap ∧ True ∧ True := by obtain ⟨ao, cap, h, _⟩ := hm1; exact ⟨ao, cap, h, trivial, trivial⟩
  obtain ⟨ko1, kc1, rfl, -, -⟩ := hk1.len
  obtain ⟨mo2, mc2, rfl, -, -⟩ : ∃ ao cap, vm2 = .slice ao y.mag.length cap ∧ True ∧ True := by obtain ⟨ao, cap, h, _⟩ := hm2; exact ⟨ao, cap, h, trivial, trivial⟩
  obtain ⟨ko2, kc2, rfl, -, -⟩ := hk2.len
  unfold vaV
  obtain ⟨n1, hn1⟩ : ∃ n, x.mag.length = n := ⟨_, rfl⟩
  obtain ⟨l1, hl1⟩ : ∃ n, x.kids.length = n := ⟨_, rfl⟩
  obtain ⟨n2, hn2⟩ : ∃ n, y.mag.length = n := ⟨_, rfl⟩
  obtain ⟨l2, hl2⟩ : ∃ n, y.kids.length = n := ⟨_, rfl⟩
  rw [hn1, hn2] at C1
  rw [hl1, hl2] at C4
  rw [hn1, hn2, hl1, hl2]
  obtain ⟨tx, htx⟩ : ∃ t, strOfNums x.text = t := ⟨_, rfl⟩
  obtain ⟨ty, hty⟩ : ∃ t, strOfNums y.text = t := ⟨_, rfl⟩
  rw [htx, hty] at C3 ⊢
  rw [E]
  generalize sg3 (vnum x) (vnum y) = f1 at *
  generalize sg3 (tkey x.bits) (tkey y.bits) = f2 at *
  generalize tcmp x.text y.text = f3 at *
  generalize kcmp x.kids y.kids = f4 at *
  obtain ⟨s0, hs0⟩ : ∃ z, sg3 x.kind y.kind = z := ⟨_, rfl⟩
  obtain ⟨s1, hs1⟩ : ∃ z, sg3 x.n y.n = z := ⟨_, rfl⟩
  obtain ⟨s2, hs2⟩ : ∃ z, sg3 x.ext y.ext = z := ⟨_, rfl⟩
  have C5 : ∀ U, Calls Tryz.prog 50 #[.int .i8 x.kind, .int .i8 y.kind] U fun e w' => e = .returned (.int .i64 s0) ∧ w' = U := fun U => by rw [← hs0]; exact vcompare_kind _ _ _
  have C6 : ∀ U, Calls Tryz.prog 51 #[.int .u64 x.n, .int .u64 y.n] U fun e w' => e = .returned (.int .i64 s1) ∧ w' = U := fun U => by rw [← hs1]; exact vcompare_u64 _ _ _
  have C7 : ∀ U, Calls Tryz.prog 52 #[.int .i8 x.ext, .int .i8 y.ext] U fun e w' => e = .returned (.int .i64 s2) ∧ w' = U := fun U => by rw [← hs2]; exact vcompare_i8 _ _ _
  rw [hs0, hs1, hs2]
  obtain ⟨f0, hf0⟩ : ∃ z, lx s0 (lx s1 s2) = z := ⟨_, rfl⟩
  rw [hf0]
  have HF0 := hide hf0
  clear hf0
  replace C1 := hide C1
  replace C2 := hide C2
  replace C3 := hide C3
  replace C4 := hide C4
  replace C5 := hide C5
  replace C6 := hide C6
  replace C7 := hide C7
  clear hx ih L hy hm1 hk1 hw1 hm2 hk2 hw2 px py E hn1 hl1 hn2 hl2 htx hty hs0 hs1 hs2
  go_enter Tryz.func19, Tryz.ntmps19
  go_upto_region 1 with fail
  obtain ⟨W1, hW1⟩ : ∃ W1, w.alloc (.cells #[.int .i8 x.kind, .int .u64 x.n, .bool x.neg, .slice mo1 n1 mc1, .int .u64 x.bits, .int .i8 x.ext, .string tx, .slice ko1 l1 kc1] 31) = W1 := ⟨_, rfl⟩
  have K1 : Hid (Below w.heap.size w W1) := hide (by rw [← hW1]; exact bel_new _ _)
  have BX : Hid (Box8 W1 w.heap.size (.int .i8 x.kind) (.int .u64 x.n) (.bool x.neg) (.slice mo1 n1 mc1) (.int .u64 x.bits) (.int .i8 x.ext) (.string tx) (.slice ko1 l1 kc1)) := hide (by rw [← hW1]; exact box8_new _ _ _ _ _ _ _ _ _ _)
  have t1 : W1.heap.size = w.heap.size + 1 := by rw [← hW1]; simp
  rw [hW1]
  obtain ⟨W2, hW2⟩ : ∃ W2, W1.alloc (.cells #[.int .i8 y.kind, .int .u64 y.n, .bool y.neg, .slice mo2 n2 mc2, .int .u64 y.bits, .int .i8 y.ext, .string ty, .slice ko2 l2 kc2] 31) = W2 := ⟨_, rfl⟩
  have K2 : Hid (Below W1.heap.size W1 W2) := hide (by rw [← hW2]; exact bel_new _ _)
  have BY : Hid (Box8 W2 W1.heap.size (.int .i8 y.kind) (.int .u64 y.n) (.bool y.neg) (.slice mo2 n2 mc2) (.int .u64 y.bits) (.int .i8 y.ext) (.string ty) (.slice ko2 l2 kc2)) := hide (by rw [← hW2]; exact box8_new _ _ _ _ _ _ _ _ _ _)
  have t2 : W2.heap.size = W1.heap.size + 1 := by rw [← hW2]; simp
  rw [hW2]
  rw [t1] at BY
  have K12 : Hid (Below w.heap.size w W2) := hide (K1.out.trans (K2.out.mono K1.out.size))
  have CF : Hid (∀ U, Below W2.heap.size W2 U → (U.cell? ⟨w.heap.size, 0, none⟩ = some (.int .i8 x.kind) ∧ U.cell? ⟨w.heap.size, 1, none⟩ = some (.int .u64 x.n) ∧ U.cell? ⟨w.heap.size, 5, none⟩ = some (.int .i8 x.ext) ∧ U.cell? ⟨w.heap.size + 1, 0, none⟩ = some (.int .i8 y.kind) ∧ U.cell? ⟨w.heap.size + 1, 1, none⟩ = some (.int .u64 y.n) ∧ U.cell? ⟨w.heap.size + 1, 5, none⟩ = some (.int .i8 y.ext)) ∧ (U.cell? ⟨w.heap.size, 2, none⟩ = some (.bool x.neg) ∧ U.cell? ⟨w.heap.size, 3, none⟩ = some (.slice mo1 n1 mc1) ∧ U.cell? ⟨w.heap.size, 4, none⟩ = some (.int .u64 x.bits) ∧ U.cell? ⟨w.heap.size, 6, none⟩ = some (.string tx) ∧ U.cell? ⟨w.heap.size, 7, none⟩ = some (.slice ko1 l1 kc1) ∧ U.cell? ⟨w.heap.size + 1, 2, none⟩ = some (.bool y.neg) ∧ U.cell? ⟨w.heap.size + 1, 3, none⟩ = some (.slice mo2 n2 mc2) ∧ U.cell? ⟨w.heap.size + 1, 4, none⟩ = some (.int .u64 y.bits) ∧ U.cell? ⟨w.heap.size + 1, 6, none⟩ = some (.string ty) ∧ U.cell? ⟨w.heap.size + 1, 7, none⟩ = some (.slice ko2 l2 kc2))) := hide (fun U k => by
    obtain ⟨h0, h1, h2, h3, h4, h5, h6, h7⟩ := BX.out.below (K2.out.trans (k.mono K2.out.size)) (by omega)
    obtain ⟨g0, g1, g2, g3, g4, g5, g6, g7⟩ := BY.out.below k (by omega)
    exact ⟨⟨h0, h1, h5, g0, g1, g5⟩, ⟨h2, h3, h4, h6, h7, g2, g3, g4, g6, g7⟩⟩)
  clear hW1 hW2 K1 K2 BX BY
  have C8 : Hid (Calls Tryz.prog 49 #[.slice (some ⟨w.heap.size + 1 + 1, 0, none⟩) 3 3] (W2.alloc (.cells #[.int .i64 s0, .int .i64 s1, .int .i64 s2] 3)).drew fun e w' => e = .returned (.int .i64 f0) ∧ Below W2.heap.size W2 w') := hide (by
    rw [← HF0.out]
    have e : w.heap.size + 1 + 1 = W2.heap.size := by omega
    rw [e]
    exact vor_made W2 s0 s1 s2)
  have K : Below W2.heap.size W2 W2.drew := (Below.refl _ _).drew
  go_region_held3 (fun u => u.cell? ⟨w.heap.size, 0, none⟩ = some (.int .i8 x.kind) ∧ u.cell? ⟨w.heap.size, 1, none⟩ = some (.int .u64 x.n) ∧ u.cell? ⟨w.heap.size, 5, none⟩ = some (.int .i8 x.ext) ∧ u.cell? ⟨w.heap.size + 1, 0, none⟩ = some (.int .i8 y.kind) ∧ u.cell? ⟨w.heap.size + 1, 1, none⟩ = some (.int .u64 y.n) ∧ u.cell? ⟨w.heap.size + 1, 5, none⟩ = some (.int .i8 y.ext))
    (first | with_reducible exact (CF.out _ K).1 | with_reducible exact (CF.out _ (((Below.refl _ W2).alloc (Nat.le_refl _) _).drew)).1 | go_keep)
    (first
      | ((with_reducible refine (C5.out _).mono ?_); rintro e w8 ⟨rfl, rfl⟩)
      | ((with_reducible refine (C6.out _).mono ?_); rintro e w8 ⟨rfl, rfl⟩)
      | ((with_reducible refine (C7.out _).mono ?_); rintro e w8 ⟨rfl, rfl⟩)
      | ((with_reducible refine C8.out.mono ?_); rintro e w8 ⟨rfl, hb⟩; replace K := hb; clear hb))
  have K9 := hide (K12.out.trans (K.mono K12.out.size))
  obtain ⟨h2, h3, h4, h6, h7, g2, g3, g4, g6, g7⟩ := (CF.out _ K).2
  by_cases z : f0 = 0
  rotate_left
  · have zz : (f0 != 0) = true := by simp [z]
    have HV := hide (show lx f0 (lx f1 (lx f2 (lx f3 f4))) = f0 by exact lx_ne z _)
    clear C1 C2 C3 C4 C5 C6 C7 C8 CF h2 h3 h4 h6 h7 g2 g3 g4 g6 g7
    go_wp2
    go_ret
    exact ⟨by rw [HV.out]; rfl, K9.out⟩
  subst z
  have CC := C1.out _ K9.out
  go_wp2_with (refine CC.mono ?_; rintro e w9 ⟨rfl, hb⟩; replace K := K.trans (hb.mono K.size); clear hb CC K9 h2 h3 h4 h6 h7 g2 g3 g4 g6 g7; refine Hid.out ?_)
  refine hide ?_
  have K9 := hide (K12.out.trans (K.mono K12.out.size))
  obtain ⟨h2, h3, h4, h6, h7, g2, g3, g4, g6, g7⟩ := (CF.out _ K).2
  by_cases z : f1 = 0
  rotate_left
  · have zz : (f1 != 0) = true := by simp [z]
    have HV := hide (show lx 0 (lx f1 (lx f2 (lx f3 f4))) = f1 by simp only [lx_zer]; exact lx_ne z _)
    clear C1 C2 C3 C4 C5 C6 C7 C8 CF h2 h3 h4 h6 h7 g2 g3 g4 g6 g7
    go_wp2
    go_ret
    exact ⟨by rw [HV.out]; rfl, K9.out⟩
  subst z
  have CC := C2.out _ K9.out
  go_wp2_with (refine CC.mono ?_; rintro e w10 ⟨rfl, hb⟩; replace K := K.trans (hb.mono K.size); clear hb CC K9 h2 h3 h4 h6 h7 g2 g3 g4 g6 g7; refine Hid.out ?_)
  refine hide ?_
  have K9 := hide (K12.out.trans (K.mono K12.out.size))
  obtain ⟨h2, h3, h4, h6, h7, g2, g3, g4, g6, g7⟩ := (CF.out _ K).2
  by_cases z : f2 = 0
  rotate_left
  · have zz : (f2 != 0) = true := by simp [z]
    have HV := hide (show lx 0 (lx 0 (lx f2 (lx f3 f4))) = f2 by simp only [lx_zer]; exact lx_ne z _)
    clear C1 C2 C3 C4 C5 C6 C7 C8 CF h2 h3 h4 h6 h7 g2 g3 g4 g6 g7
    go_wp2
    go_ret
    exact ⟨by rw [HV.out]; rfl, K9.out⟩
  subst z
  have CC := C3.out w10
  go_wp2_with (refine CC.mono ?_; rintro e w11 ⟨rfl, rfl⟩; clear CC K9 h2 h3 h4 h6 h7 g2 g3 g4 g6 g7; refine Hid.out ?_)
  refine hide ?_
  have K9 := hide (K12.out.trans (K.mono K12.out.size))
  obtain ⟨h2, h3, h4, h6, h7, g2, g3, g4, g6, g7⟩ := (CF.out _ K).2
  by_cases z : f3 = 0
  rotate_left
  · have zz : (f3 != 0) = true := by simp [z]
    have HV := hide (show lx 0 (lx 0 (lx 0 (lx f3 f4))) = f3 by simp only [lx_zer]; exact lx_ne z _)
    clear C1 C2 C3 C4 C5 C6 C7 C8 CF h2 h3 h4 h6 h7 g2 g3 g4 g6 g7
    go_wp2
    go_ret
    exact ⟨by rw [HV.out]; rfl, K9.out⟩
  subst z
  have CC := C4.out _ K9.out
  have HV := hide (show lx 0 (lx 0 (lx 0 (lx 0 f4))) = f4 by simp only [lx_zer])
  go_wp2_with (refine CC.mono ?_; rintro e w12 ⟨rfl, hb⟩; replace K := K.trans (hb.mono K.size); clear hb CC K9 h2 h3 h4 h6 h7 g2 g3 g4 g6 g7)
  go_ret
  exact ⟨by rw [HV.out]; rfl, K12.out.trans (K.mono K12.out.size)⟩
theorem vcompare_size : ∀ (N : Nat) (x : Va), SizeOf.sizeOf x ≤ N → vpts x ≤ 1048576 → CmpOf x
  | 0, x, h, _ => by cases x; simp at h
  | N + 1, x, h, hp => by
    refine vcompare_step hp fun k hk => vcompare_size N k ?_ (Nat.le_trans (kpts_mem hk) (by have := vpts_eq x; omega))
    have := List.sizeOf_lt_of_mem hk
    cases x
    simp only [Va.kids] at this
    simp at h
    omega
theorem vcompare_any {x : Va} (h : vpts x ≤ 1048576) : CmpOf x := vcompare_size _ x (Nat.le_refl _) h
end Go.Proofs.YticmlelalbaalaaGreatDoor
