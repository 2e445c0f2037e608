import Derived.Test.YticmlelalbaalaaGreatDoorB23
import Derived.Test.YticmlelalbaalaaGreatDoorB39
import Derived.Test.YticmlelalbaalaaGreatDoorB04
namespace Go.Proofs.YticmlelalbaalaaGreatDoor
open Go.RowKit
set_option linter.unusedVariables false
theorem lx_as (a b c : Int) : lx (lx a b) c = lx a (lx b c) := by
  unfold lx
  by_cases h : a = 0
  · simp [h]
  · simp [h]
theorem rsign14_any (a b : Bool) (w : World) : Calls Tryz.prog 46 #[.bool a, .bool b] w fun e w' => e = .returned (.int .i64 (if a then -1 else if b then 1 else 0)) ∧ w' = w := by
  cases a <;> cases b
  all_goals
    go_enter Tryz.func46, Tryz.ntmps46
    go_wp2
    go_ret
    exact ⟨rfl, rfl⟩
theorem rsign14_int (x y : Int) (w : World) : Calls Tryz.prog 46 #[.bool (decide (x < y)), .bool (decide (y < x))] w fun e w' => e = .returned (.int .i64 (sg3 x y)) ∧ w' = w := by
  refine (rsign14_any _ _ _).mono ?_
  rintro e w' ⟨rfl, rfl⟩
  refine ⟨?_, rfl⟩
  unfold sg3
  simp
theorem rsign14_str {xs ys : List Int} (hx : Byt xs) (hy : Byt ys) (w : World) : Calls Tryz.prog 46 #[.bool (Op.bytesLess (strOfNums xs).toList (strOfNums ys).toList), .bool (Op.bytesLess (strOfNums ys).toList (strOfNums xs).toList)] w fun e w' => e = .returned (.int .i64 (tcmp xs ys)) ∧ w' = w := by
  have h1 := vless hx hy
  have h2 := vless hy hx
  rw [← vstr_list, ← vstr_list] at h1 h2
  rw [h1, h2]
  refine (rsign14_any _ _ _).mono ?_
  rintro e w' ⟨rfl, rfl⟩
  refine ⟨?_, rfl⟩
  have hn : tcmp ys xs = -tcmp xs ys := tcmp_neg _ _
  have hr : R3 (tcmp xs ys) := tcmp_r _ _
  rw [hn]
  unfold R3 at hr
  have h3 : tcmp xs ys = -1 ∨ tcmp xs ys = 0 ∨ tcmp xs ys = 1 := by omega
  rcases h3 with h | h | h <;> rw [h] <;> rfl
theorem vgtr {xs ys : List Int} (hx : Byt xs) (hy : Byt ys) : binOp .gtr 9 (.string (strOfNums xs)) (.string (strOfNums ys)) = pure (.bool (Op.bytesLess (strOfNums ys).toList (strOfNums xs).toList)) := by
  have h1 := vless hx hy
  have h3 := vless hy hx
  rw [← vstr_list, ← vstr_list] at h1 h3
  have h2 := veq hx hy
  have hg : binOp .gtr 9 (.string (strOfNums xs)) (.string (strOfNums ys)) = pure (.bool !(Op.bytesLess (strOfNums xs).toList (strOfNums ys).toList || (strOfNums xs).toList == (strOfNums ys).toList)) := by simp [binOp, Op.stringOp]
  rw [hg, h1, h2, h3]
  have hn : tcmp ys xs = -tcmp xs ys := tcmp_neg _ _
  have hr := tcmp_r xs ys
  unfold R3 at hr
  rw [hn]
  have h4 : tcmp xs ys = -1 ∨ tcmp xs ys = 0 ∨ tcmp xs ys = 1 := by omega
  rcases h4 with h | h | h <;> rw [h] <;> rfl
def RcmOf (x : Va) : Prop := ∀ (w : World) (v v' : Value) (y : Va), VaRd w v x → VaRd w v' y → vpts y ≤ 1048576 →
  Calls Tryz.prog 18 #[v, v'] w fun e w' => e = .returned (.int .i64 (vcmp x y)) ∧ Below w.heap.size w w'
set_option maxHeartbeats 64000000 in
set_option maxRecDepth 100000 in
theorem rcompare_step {x : Va} (hx : vpts x ≤ 1048576) (ih : ∀ k ∈ x.kids, RcmOf k) : RcmOf x := by
  intro w v v' y h1 h2 hy
  obtain ⟨⟨vm1, vk1, rfl, hm1, hk1⟩, hw1⟩ := h1
  obtain ⟨⟨vm2, vk2, rfl, hm2, hk2⟩, hw2⟩ := h2
  have px : kpts x.kids ≤ 1048576 := by have := vpts_eq x; omega
  have py : kpts y.kids ≤ 1048576 := by have := vpts_eq y; omega
  have C1 : ∀ U, Below w.heap.size w U → Calls Tryz.prog 47 #[.agg #[.bool x.neg, vm1], .agg #[.bool y.neg, vm2]] U fun e w' => e = .returned (.int .i64 (sg3 (vnum x) (vnum y))) ∧ Below U.heap.size U w' := fun U k =>
    r3cmp_any (k1 := x.mag.length) (k2 := y.mag.length) ⟨_, _, _, rfl, ⟨x.mag, hm1.below k, hw1.m, rfl, Nat.le_refl _⟩, rfl⟩ (by have := vpts_eq x; omega) ⟨_, _, _, rfl, ⟨y.mag, hm2.below k, hw2.m, rfl, Nat.le_refl _⟩, rfl⟩ (by have := vpts_eq y; omega)
  have C2 : ∀ U, Calls Tryz.prog 48 #[.int .i64 64, .int .u64 x.bits, .int .u64 y.bits] U fun e w' => e = .returned (.int .i64 (sg3 (tkey x.bits) (tkey y.bits))) ∧ w' = U := fun U => by
    rw [← tri_key]
    exact rTotal_d U _ _ hw1.b0 hw1.b1 hw2.b0 hw2.b1
  have C3 : ∀ U, Calls Tryz.prog 46 #[.bool (Op.bytesLess (strOfNums x.text).toList (strOfNums y.text).toList), .bool (Op.bytesLess (strOfNums y.text).toList (strOfNums x.text).toList)] U fun e w' => e = .returned (.int .i64 (tcmp x.text y.text)) ∧ w' = U := fun U => rsign14_str hw1.t hw2.t U
  have HG : Hid (binOp .gtr 9 (.string (strOfNums x.text)) (.string (strOfNums y.text)) = pure (.bool (Op.bytesLess (strOfNums y.text).toList (strOfNums x.text).toList))) := hide (vgtr hw1.t hw2.t)
  have C5 := rsign14_int x.kind y.kind
  have C6 := rsign14_int x.n y.n
  have C7 := rsign14_int x.ext y.ext
  have E := vcmp_eq x y
  rw [hcmp] at E
  have H1 := hide hk1
  have H2 := hide hk2
  obtain ⟨mo1, mc1, rfl, -, -⟩ : ∃ ao cap, vm1 = .slice ao x.mag.length cap ∧ True ∧ True := by obtain ⟨ao, cap, h, _⟩ := hm1; exact ⟨ao, cap, h, trivial, trivial⟩
  obtain ⟨ko1, kc1, rfl, lc1, cm1⟩ := hk1.len
  obtain ⟨mo2, mc2, rfl, -, -⟩ : ∃ ao cap, vm2 = .slice ao y.mag.length cap ∧ True ∧ True := by obtain ⟨ao, cap, h, _⟩ := hm2; exact ⟨ao, cap, h, trivial, trivial⟩
  obtain ⟨ko2, kc2, rfl, lc2, cm2⟩ := hk2.len
  unfold vaV
  obtain ⟨n1, hn1⟩ : ∃ n, x.mag.length = n := ⟨_, rfl⟩
  obtain ⟨n2, hn2⟩ : ∃ n, y.mag.length = n := ⟨_, rfl⟩
  obtain ⟨xs, hxs⟩ : ∃ l, x.kids = l := ⟨_, rfl⟩
  obtain ⟨ys, hys⟩ : ∃ l, y.kids = l := ⟨_, rfl⟩
  rw [hn1, hn2] at C1
  rw [hn1, hn2, hxs, hys]
  rw [hxs] at px ih H1 E lc1
  rw [hys] at py H2 E lc2
  have l1 : xs.length ≤ 1048576 := Nat.le_trans (kpts_len xs) px
  have l2 : ys.length ≤ 1048576 := Nat.le_trans (kpts_len ys) py
  have HI := hide ih
  have HP := hide py
  obtain ⟨tx, htx⟩ : ∃ t, strOfNums x.text = t := ⟨_, rfl⟩
  obtain ⟨ty, hty⟩ : ∃ t, strOfNums y.text = t := ⟨_, rfl⟩
  rw [htx, hty] at C3 HG ⊢
  rw [E]
  generalize sg3 (vnum x) (vnum y) = s3 at *
  generalize sg3 (tkey x.bits) (tkey y.bits) = s4 at *
  generalize tcmp x.text y.text = s5 at *
  generalize sg3 x.kind y.kind = s0 at *
  generalize sg3 x.n y.n = s1 at *
  generalize sg3 x.ext y.ext = s2 at *
  obtain ⟨hv, hhv⟩ : ∃ z, lx s0 (lx s1 (lx s2 (lx s3 (lx s4 s5)))) = z := ⟨_, rfl⟩
  rw [hhv]
  have HH := hide hhv.symm
  replace C1 := hide C1
  replace C2 := hide C2
  replace C3 := hide C3
  replace C5 := hide C5
  replace C6 := hide C6
  replace C7 := hide C7
  clear hx ih hy hm1 hk1 hw1 hm2 hk2 hw2 px py E hn1 hn2 htx hty hhv hxs hys
  go_enter Tryz.func18, Tryz.ntmps18
  go_upto_region 1 with fail
  obtain ⟨W1, hW1⟩ : ∃ W1, w.alloc (.cells #[.int .i8 x.kind, .int .u64 x.n, .bool x.neg, .slice mo1 n1 mc1, .int .u64 x.bits, .int .i8 x.ext, .string tx, .slice ko1 xs.length kc1] 31) = W1 := ⟨_, rfl⟩
  have K1 : Hid (Below w.heap.size w W1) := hide (by rw [← hW1]; exact bel_new _ _)
  have BX : Hid (Box8 W1 w.heap.size (.int .i8 x.kind) (.int .u64 x.n) (.bool x.neg) (.slice mo1 n1 mc1) (.int .u64 x.bits) (.int .i8 x.ext) (.string tx) (.slice ko1 xs.length kc1)) := hide (by rw [← hW1]; exact box8_new _ _ _ _ _ _ _ _ _ _)
  have t1 : W1.heap.size = w.heap.size + 1 := by rw [← hW1]; simp
  rw [hW1]
  obtain ⟨W2, hW2⟩ : ∃ W2, W1.alloc (.cells #[.int .i8 y.kind, .int .u64 y.n, .bool y.neg, .slice mo2 n2 mc2, .int .u64 y.bits, .int .i8 y.ext, .string ty, .slice ko2 ys.length kc2] 31) = W2 := ⟨_, rfl⟩
  have K2 : Hid (Below W1.heap.size W1 W2) := hide (by rw [← hW2]; exact bel_new _ _)
  have BY : Hid (Box8 W2 W1.heap.size (.int .i8 y.kind) (.int .u64 y.n) (.bool y.neg) (.slice mo2 n2 mc2) (.int .u64 y.bits) (.int .i8 y.ext) (.string ty) (.slice ko2 ys.length kc2)) := hide (by rw [← hW2]; exact box8_new _ _ _ _ _ _ _ _ _ _)
  have t2 : W2.heap.size = W1.heap.size + 1 := by rw [← hW2]; simp
  rw [hW2]
  rw [t1] at BY
  have K12 : Hid (Below w.heap.size w W2) := hide (K1.out.trans (K2.out.mono K1.out.size))
  have CA : Hid (∀ U, Below W2.heap.size W2 U → Box8 U w.heap.size (.int .i8 x.kind) (.int .u64 x.n) (.bool x.neg) (.slice mo1 n1 mc1) (.int .u64 x.bits) (.int .i8 x.ext) (.string tx) (.slice ko1 xs.length kc1) ∧ Box8 U (w.heap.size + 1) (.int .i8 y.kind) (.int .u64 y.n) (.bool y.neg) (.slice mo2 n2 mc2) (.int .u64 y.bits) (.int .i8 y.ext) (.string ty) (.slice ko2 ys.length kc2)) := hide (fun U k => ⟨BX.out.below (K2.out.trans (k.mono K2.out.size)) (by omega), BY.out.below k (by omega)⟩)
  have CF : Hid (∀ U, Below W2.heap.size W2 U → U.cell? ⟨w.heap.size, 7, none⟩ = some (.slice ko1 xs.length kc1) ∧ U.cell? ⟨w.heap.size + 1, 7, none⟩ = some (.slice ko2 ys.length kc2)) := hide (fun U k => ⟨(CA.out U k).1.2.2.2.2.2.2.2, (CA.out U k).2.2.2.2.2.2.2.2⟩)
  clear hW1 hW2 K1 K2 BX BY
  have K : Below W2.heap.size W2 W2 := Below.refl _ _
  obtain ⟨⟨h0, h1, h2, h3, h4, h5, h6, h7⟩, ⟨g0, g1, g2, g3, g4, g5, g6, g7⟩⟩ := CA.out _ K
  go_wp2_with fail
  with_reducible refine (C5.out _).mono ?_
  rintro e w7 ⟨rfl, hw⟩
  rw [hw]
  clear hw
  clear h0 h1 h2 h3 h4 h5 h6 h7 g0 g1 g2 g3 g4 g5 g6 g7
  go_upto_if 19 with fail
  go_cut [5] from 7 (fun s5v wx => ∃ c1 : Int, s5v = .int .i64 c1 ∧ c1 = lx s0 s1 ∧ Below W2.heap.size W2 wx)
  case first =>
    by_cases z : s0 = 0
    · have zz : (s0 == 0) = true := by simp [z]
      have HZ := hide (show s1 = lx s0 s1 by rw [z]; rfl)
      clear z
      obtain ⟨⟨h0, h1, h2, h3, h4, h5, h6, h7⟩, ⟨g0, g1, g2, g3, g4, g5, g6, g7⟩⟩ := CA.out _ K
      go_wp2_with fail
      with_reducible refine (C6.out _).mono ?_
      rintro e w7 ⟨rfl, hw⟩
      rw [hw]
      clear hw
      clear h0 h1 h2 h3 h4 h5 h6 h7 g0 g1 g2 g3 g4 g5 g6 g7
      have HK := hide K
      clear K
      go_wp2_with fail
      go_meet
      case rel => exact ⟨_, rfl, HZ.out, HK.out⟩
    · have zz : (s0 == 0) = false := by simp [z]
      have HZ := hide (show s0 = lx s0 s1 from (lx_ne z _).symm)
      clear z
      have HK := hide K
      clear K
      go_wp2_with fail
      go_meet
      case rel => exact ⟨_, rfl, HZ.out, HK.out⟩
  case rest =>
    obtain ⟨c1, rfl, e1, k⟩ := hcut
    clear K
    have K := k
    clear k
    have HA1 := hide e1
    clear e1
    go_upto_if 32 with fail
    go_cut [5] from 7 (fun s5v wx => ∃ c2 : Int, s5v = .int .i64 c2 ∧ c2 = lx c1 s2 ∧ Below W2.heap.size W2 wx)
    case first =>
      by_cases z : c1 = 0
      · have zz : (c1 == 0) = true := by simp [z]
        have HZ := hide (show s2 = lx c1 s2 by rw [z]; rfl)
        clear z
        obtain ⟨⟨h0, h1, h2, h3, h4, h5, h6, h7⟩, ⟨g0, g1, g2, g3, g4, g5, g6, g7⟩⟩ := CA.out _ K
        go_wp2_with fail
        with_reducible refine (C7.out _).mono ?_
        rintro e w7 ⟨rfl, hw⟩
        rw [hw]
        clear hw
        clear h0 h1 h2 h3 h4 h5 h6 h7 g0 g1 g2 g3 g4 g5 g6 g7
        have HK := hide K
        clear K
        go_wp2_with fail
        go_meet
        case rel => exact ⟨_, rfl, HZ.out, HK.out⟩
      · have zz : (c1 == 0) = false := by simp [z]
        have HZ := hide (show c1 = lx c1 s2 from (lx_ne z _).symm)
        clear z
        have HK := hide K
        clear K
        go_wp2_with fail
        go_meet
        case rel => exact ⟨_, rfl, HZ.out, HK.out⟩
    case rest =>
      obtain ⟨c2, rfl, e2, k⟩ := hcut
      clear K
      have K := k
      clear k
      have HA2 := hide e2
      clear e2
      go_upto_if 45 with fail
      go_cut [5] from 7 (fun s5v wx => ∃ c3 : Int, s5v = .int .i64 c3 ∧ c3 = lx c2 s3 ∧ Below W2.heap.size W2 wx)
      case first =>
        by_cases z : c2 = 0
        · have zz : (c2 == 0) = true := by simp [z]
          have HZ := hide (show s3 = lx c2 s3 by rw [z]; rfl)
          clear z
          obtain ⟨⟨h0, h1, h2, h3, h4, h5, h6, h7⟩, ⟨g0, g1, g2, g3, g4, g5, g6, g7⟩⟩ := CA.out _ K
          have CC := C1.out _ (K12.out.trans (K.mono K12.out.size))
          go_wp2_with fail
          with_reducible refine CC.mono ?_
          rintro e w8 ⟨rfl, hb⟩
          replace K := K.trans (hb.mono K.size)
          clear hb CC
          clear h0 h1 h2 h3 h4 h5 h6 h7 g0 g1 g2 g3 g4 g5 g6 g7
          have HK := hide K
          clear K
          go_wp2_with fail
          go_meet
          case rel => exact ⟨_, rfl, HZ.out, HK.out⟩
        · have zz : (c2 == 0) = false := by simp [z]
          have HZ := hide (show c2 = lx c2 s3 from (lx_ne z _).symm)
          clear z
          have HK := hide K
          clear K
          go_wp2_with fail
          go_meet
          case rel => exact ⟨_, rfl, HZ.out, HK.out⟩
      case rest =>
        obtain ⟨c3, rfl, e3, k⟩ := hcut
        clear K
        have K := k
        clear k
        have HA3 := hide e3
        clear e3
        go_upto_if 52 with fail
        go_cut [5] from 7 (fun s5v wx => ∃ c4 : Int, s5v = .int .i64 c4 ∧ c4 = lx c3 s4 ∧ Below W2.heap.size W2 wx)
        case first =>
          by_cases z : c3 = 0
          · have zz : (c3 == 0) = true := by simp [z]
            have HZ := hide (show s4 = lx c3 s4 by rw [z]; rfl)
            clear z
            obtain ⟨⟨h0, h1, h2, h3, h4, h5, h6, h7⟩, ⟨g0, g1, g2, g3, g4, g5, g6, g7⟩⟩ := CA.out _ K
            go_wp2_with fail
            with_reducible refine (C2.out _).mono ?_
            rintro e w7 ⟨rfl, hw⟩
            rw [hw]
            clear hw
            clear h0 h1 h2 h3 h4 h5 h6 h7 g0 g1 g2 g3 g4 g5 g6 g7
            have HK := hide K
            clear K
            go_wp2_with fail
            go_meet
            case rel => exact ⟨_, rfl, HZ.out, HK.out⟩
          · have zz : (c3 == 0) = false := by simp [z]
            have HZ := hide (show c3 = lx c3 s4 from (lx_ne z _).symm)
            clear z
            have HK := hide K
            clear K
            go_wp2_with fail
            go_meet
            case rel => exact ⟨_, rfl, HZ.out, HK.out⟩
        case rest =>
          obtain ⟨c4, rfl, e4, k⟩ := hcut
          clear K
          have K := k
          clear k
          have HA4 := hide e4
          clear e4
          go_upto_if 59 with fail
          go_cut [5] from 7 (fun s5v wx => ∃ c5 : Int, s5v = .int .i64 c5 ∧ c5 = lx c4 s5 ∧ Below W2.heap.size W2 wx)
          case first =>
            by_cases z : c4 = 0
            · have zz : (c4 == 0) = true := by simp [z]
              have HZ := hide (show s5 = lx c4 s5 by rw [z]; rfl)
              clear z
              obtain ⟨⟨h0, h1, h2, h3, h4, h5, h6, h7⟩, ⟨g0, g1, g2, g3, g4, g5, g6, g7⟩⟩ := CA.out _ K
              have hgt := HG.out
              go_wp2_with fail
              with_reducible refine (C3.out _).mono ?_
              rintro e w7 ⟨rfl, hw⟩
              rw [hw]
              clear hw
              clear h0 h1 h2 h3 h4 h5 h6 h7 g0 g1 g2 g3 g4 g5 g6 g7
              have HK := hide K
              clear K
              go_wp2_with fail
              go_meet
              case rel => exact ⟨_, rfl, HZ.out, HK.out⟩
            · have zz : (c4 == 0) = false := by simp [z]
              have HZ := hide (show c4 = lx c4 s5 from (lx_ne z _).symm)
              clear z
              have HK := hide K
              clear K
              go_wp2_with fail
              go_meet
              case rel => exact ⟨_, rfl, HZ.out, HK.out⟩
          case rest =>
            obtain ⟨c5, rfl, e5, k⟩ := hcut
            clear K
            have K := k
            clear k
            have HA5 := hide e5
            clear e5
            have HH := hide (show hv = c5 by rw [HA5.out, HA4.out, HA3.out, HA2.out, HA1.out]; simp only [lx_as]; exact HH.out)
            clear C1 C2 C3 C5 C6 C7 CA HA1 HA2 HA3 HA4 HA5
            go_wp2_with fail
            go_loopw [5, 6] (fun c i wr => ∃ (j : Nat) (cv : Int), c = .int .i64 cv ∧ i = .int .i64 j ∧ j ≤ xs.length ∧ j ≤ ys.length ∧ Hid (cv = 0 → hv = 0 ∧ kcmp (xs.take j) (ys.take j) = 0) ∧ Hid (cv ≠ 0 → lx hv (kcmp xs ys) = cv) ∧ Hid (Below W2.heap.size W2 wr)) (fun _ i _ => xs.length - (intOf i).toNat)
            case atStart => exact ⟨0, _, rfl, rfl, by omega, by omega, hide (fun h => ⟨HH.out.trans h, by simp [kcmp]⟩), hide (fun h => by rw [HH.out]; exact lx_ne h _), hide K⟩
            case round =>
              obtain ⟨j, cv, rfl, rfl, hj, hj', HZ, HN, HW⟩ := hrel
              clear K
              have h7 := (CF.out _ HW.out).1
              have g7 := (CF.out _ HW.out).2
              by_cases hc : cv = 0
              · subst hc
                have HZ2 := hide (HZ.out rfl)
                by_cases hjx : j < xs.length
                · have q1 : (j : Int) < (xs.length : Int) := by omega
                  by_cases hjy : j < ys.length
                  · have q2 : (j : Int) < (ys.length : Int) := by omega
                    clear h7 g7
                    obtain ⟨b3, o3, vm1, vk1, rfl, hb1, cc1, hm1, hk1, hw1⟩ := VaSl.at (H1.out.far (K12.out.trans (HW.out.mono K12.out.size))) rfl hjx
                    obtain ⟨p, hp⟩ : ∃ y, xs[j] = y := ⟨_, rfl⟩
                    rw [hp] at cc1 hm1 hk1 hw1
                    have HE1 := hide hp
                    have HM1 := hide (show p ∈ xs by rw [← hp]; exact List.getElem_mem hjx)
                    obtain ⟨em1, ec1, rfl, -, -⟩ : ∃ ao cap, vm1 = .slice ao p.mag.length cap ∧ True ∧ True := by obtain ⟨ao, cap, h, _⟩ := hm1; exact ⟨ao, cap, h, trivial, trivial⟩
                    obtain ⟨ek1, ed1, rfl, -, -⟩ := hk1.len
                    obtain ⟨u1, hu1⟩ : ∃ n, p.mag.length = n := ⟨_, rfl⟩
                    obtain ⟨r1, hr1⟩ : ∃ n, p.kids.length = n := ⟨_, rfl⟩
                    obtain ⟨t1, ht1⟩ : ∃ t, strOfNums p.text = t := ⟨_, rfl⟩
                    obtain ⟨p0, p1, p2, p3, p4, p5, p6, p7⟩ := cc1
                    rw [hu1] at p3 hm1
                    rw [hr1] at p7 hk1
                    rw [ht1] at p6
                    have R1 : VaRd wr (vaV p (.slice em1 u1 ec1) (.slice ek1 r1 ed1)) p := ⟨⟨_, _, rfl, hm1, hk1⟩, hw1⟩
                    unfold vaV at R1
                    rw [ht1] at R1
                    clear hp hm1 hk1 hw1 hu1 hr1 ht1
                    obtain ⟨b4, o4, vm2, vk2, rfl, hb2, cc2, hm2, hk2, hw2⟩ := VaSl.at (H2.out.far (K12.out.trans (HW.out.mono K12.out.size))) rfl hjy
                    obtain ⟨q, hq⟩ : ∃ y, ys[j] = y := ⟨_, rfl⟩
                    rw [hq] at cc2 hm2 hk2 hw2
                    have HE2 := hide hq
                    have HM2 := hide (show q ∈ ys by rw [← hq]; exact List.getElem_mem hjy)
                    obtain ⟨em2, ec2, rfl, -, -⟩ : ∃ ao cap, vm2 = .slice ao q.mag.length cap ∧ True ∧ True := by obtain ⟨ao, cap, h, _⟩ := hm2; exact ⟨ao, cap, h, trivial, trivial⟩
                    obtain ⟨ek2, ed2, rfl, -, -⟩ := hk2.len
                    obtain ⟨u2, hu2⟩ : ∃ n, q.mag.length = n := ⟨_, rfl⟩
                    obtain ⟨r2, hr2⟩ : ∃ n, q.kids.length = n := ⟨_, rfl⟩
                    obtain ⟨t2, ht2⟩ : ∃ t, strOfNums q.text = t := ⟨_, rfl⟩
                    obtain ⟨q0, q1', q2', q3, q4, q5, q6, q7⟩ := cc2
                    rw [hu2] at q3 hm2
                    rw [hr2] at q7 hk2
                    rw [ht2] at q6
                    have R2 : VaRd wr (vaV q (.slice em2 u2 ec2) (.slice ek2 r2 ed2)) q := ⟨⟨_, _, rfl, hm2, hk2⟩, hw2⟩
                    unfold vaV at R2
                    rw [ht2] at R2
                    clear hq hm2 hk2 hw2 hu2 hr2 ht2
                    have CE : Hid (∀ U, Below wr.heap.size wr U → U.cell? ⟨w.heap.size, 7, none⟩ = some (.slice (some ⟨b3, o3, none⟩) xs.length kc1) ∧ U.cell? ⟨w.heap.size + 1, 7, none⟩ = some (.slice (some ⟨b4, o4, none⟩) ys.length kc2) ∧ U.cell? ⟨b3, o3 + j * 8, none⟩ = some (.int .i8 p.kind) ∧ U.cell? ⟨b3, o3 + j * 8 + 1, none⟩ = some (.int .u64 p.n) ∧ U.cell? ⟨b3, o3 + j * 8 + 2, none⟩ = some (.bool p.neg) ∧ U.cell? ⟨b3, o3 + j * 8 + 3, none⟩ = some (.slice em1 u1 ec1) ∧ U.cell? ⟨b3, o3 + j * 8 + 4, none⟩ = some (.int .u64 p.bits) ∧ U.cell? ⟨b3, o3 + j * 8 + 5, none⟩ = some (.int .i8 p.ext) ∧ U.cell? ⟨b3, o3 + j * 8 + 6, none⟩ = some (.string t1) ∧ U.cell? ⟨b3, o3 + j * 8 + 7, none⟩ = some (.slice ek1 r1 ed1) ∧ U.cell? ⟨b4, o4 + j * 8, none⟩ = some (.int .i8 q.kind) ∧ U.cell? ⟨b4, o4 + j * 8 + 1, none⟩ = some (.int .u64 q.n) ∧ U.cell? ⟨b4, o4 + j * 8 + 2, none⟩ = some (.bool q.neg) ∧ U.cell? ⟨b4, o4 + j * 8 + 3, none⟩ = some (.slice em2 u2 ec2) ∧ U.cell? ⟨b4, o4 + j * 8 + 4, none⟩ = some (.int .u64 q.bits) ∧ U.cell? ⟨b4, o4 + j * 8 + 5, none⟩ = some (.int .i8 q.ext) ∧ U.cell? ⟨b4, o4 + j * 8 + 6, none⟩ = some (.string t2) ∧ U.cell? ⟨b4, o4 + j * 8 + 7, none⟩ = some (.slice ek2 r2 ed2)) := hide (fun U k => by
                      have c1 := (CF.out _ (HW.out.trans (k.mono HW.out.size))).1
                      have c2 := (CF.out _ (HW.out.trans (k.mono HW.out.size))).2
                      exact ⟨c1, c2, (k.cell (p := ⟨b3, _, none⟩) hb1).trans p0, (k.cell (p := ⟨b3, _, none⟩) hb1).trans p1, (k.cell (p := ⟨b3, _, none⟩) hb1).trans p2, (k.cell (p := ⟨b3, _, none⟩) hb1).trans p3, (k.cell (p := ⟨b3, _, none⟩) hb1).trans p4, (k.cell (p := ⟨b3, _, none⟩) hb1).trans p5, (k.cell (p := ⟨b3, _, none⟩) hb1).trans p6, (k.cell (p := ⟨b3, _, none⟩) hb1).trans p7, (k.cell (p := ⟨b4, _, none⟩) hb2).trans q0, (k.cell (p := ⟨b4, _, none⟩) hb2).trans q1', (k.cell (p := ⟨b4, _, none⟩) hb2).trans q2', (k.cell (p := ⟨b4, _, none⟩) hb2).trans q3, (k.cell (p := ⟨b4, _, none⟩) hb2).trans q4, (k.cell (p := ⟨b4, _, none⟩) hb2).trans q5, (k.cell (p := ⟨b4, _, none⟩) hb2).trans q6, (k.cell (p := ⟨b4, _, none⟩) hb2).trans q7⟩)
                    obtain ⟨fv, hfv⟩ : ∃ z, vcmp p q = z := ⟨_, rfl⟩
                    have CL : Hid (∀ U, Below wr.heap.size wr U → Calls Tryz.prog 18 #[.agg #[.int .i8 p.kind, .int .u64 p.n, .bool p.neg, .slice em1 u1 ec1, .int .u64 p.bits, .int .i8 p.ext, .string t1, .slice ek1 r1 ed1], .agg #[.int .i8 q.kind, .int .u64 q.n, .bool q.neg, .slice em2 u2 ec2, .int .u64 q.bits, .int .i8 q.ext, .string t2, .slice ek2 r2 ed2]] U fun e w' => e = .returned (.int .i64 fv) ∧ Below U.heap.size U w') := hide (fun U k => by
                      rw [← hfv]
                      exact HI.out p HM1.out U _ _ q (R1.far k) (R2.far k) (Nat.le_trans (kpts_mem HM2.out) HP.out))
                    have HFV := hide hfv
                    clear hfv p0 p1 p2 p3 p4 p5 p6 p7 q0 q1' q2' q3 q4 q5 q6 q7 R1 R2
                    have c7 := (CE.out _ (Below.refl _ _)).1
                    have d7 := (CE.out _ (Below.refl _ _)).2.1
                    go_wp2
                    clear c7 d7
                    have K : Below wr.heap.size wr wr.drew := (Below.refl _ _).drew
                    go_region_held3 (fun u => u.cell? ⟨w.heap.size, 7, none⟩ = some (.slice (some ⟨b3, o3, none⟩) xs.length kc1) ∧ u.cell? ⟨w.heap.size + 1, 7, none⟩ = some (.slice (some ⟨b4, o4, none⟩) ys.length kc2) ∧ u.cell? ⟨b3, o3 + j * 8, none⟩ = some (.int .i8 p.kind) ∧ u.cell? ⟨b3, o3 + j * 8 + 1, none⟩ = some (.int .u64 p.n) ∧ u.cell? ⟨b3, o3 + j * 8 + 2, none⟩ = some (.bool p.neg) ∧ u.cell? ⟨b3, o3 + j * 8 + 3, none⟩ = some (.slice em1 u1 ec1) ∧ u.cell? ⟨b3, o3 + j * 8 + 4, none⟩ = some (.int .u64 p.bits) ∧ u.cell? ⟨b3, o3 + j * 8 + 5, none⟩ = some (.int .i8 p.ext) ∧ u.cell? ⟨b3, o3 + j * 8 + 6, none⟩ = some (.string t1) ∧ u.cell? ⟨b3, o3 + j * 8 + 7, none⟩ = some (.slice ek1 r1 ed1) ∧ u.cell? ⟨b4, o4 + j * 8, none⟩ = some (.int .i8 q.kind) ∧ u.cell? ⟨b4, o4 + j * 8 + 1, none⟩ = some (.int .u64 q.n) ∧ u.cell? ⟨b4, o4 + j * 8 + 2, none⟩ = some (.bool q.neg) ∧ u.cell? ⟨b4, o4 + j * 8 + 3, none⟩ = some (.slice em2 u2 ec2) ∧ u.cell? ⟨b4, o4 + j * 8 + 4, none⟩ = some (.int .u64 q.bits) ∧ u.cell? ⟨b4, o4 + j * 8 + 5, none⟩ = some (.int .i8 q.ext) ∧ u.cell? ⟨b4, o4 + j * 8 + 6, none⟩ = some (.string t2) ∧ u.cell? ⟨b4, o4 + j * 8 + 7, none⟩ = some (.slice ek2 r2 ed2))
                      (first | with_reducible exact CE.out _ K | go_keep)
                      (first | ((with_reducible refine (CL.out _ K).mono ?_); rintro e w8 ⟨rfl, hb⟩; replace K := K.trans (hb.mono K.size); clear hb))
                    have HB8 := hide (HW.out.trans (K.mono HW.out.size))
                    clear K CE CL
                    go_wp2
                    go_roundw
                    case rel => exact ⟨j + 1, fv, rfl, by simp, by omega, by omega, hide (fun h => ⟨HZ2.out.1, kcmp_step hjx hjy HZ2.out.2 (by rw [HE1.out, HE2.out]; exact HFV.out.trans h)⟩), hide (fun h => by rw [HZ2.out.1, lx_zer, kcmp_at hjx hjy HZ2.out.2 (by rw [HE1.out, HE2.out, HFV.out]; exact h), HE1.out, HE2.out]; exact HFV.out), HB8⟩
                    case measure => simp [intOf]; omega
                  · have q2 : ¬ (j : Int) < (ys.length : Int) := by omega
                    have HV := hide (show lx hv (kcmp xs ys) = 1 by
                      rw [HZ2.out.1, lx_zer]
                      have e : ys.length = j := by omega
                      have h := kcmp_end (xs := xs) (ys := ys) (by
                        have := HZ2.out.2
                        rw [List.take_of_length_le (show ys.length ≤ j by omega)] at this
                        rw [e, List.take_of_length_le (show ys.length ≤ xs.length by omega)]
                        exact this)
                      rw [h, if_neg (by omega), if_pos (by omega)])
                    have e1 : ¬ (xs.length : Int) < (ys.length : Int) := by omega
                    have e2 : (ys.length : Int) < (xs.length : Int) := by omega
                    go_wp2_with (refine (rsign14_any false true _).mono ?_; rintro e w8 ⟨rfl, rfl⟩)
                    go_ret
                    exact ⟨by rw [HV.out]; rfl, K12.out.trans (HW.out.mono K12.out.size)⟩
                · have q1 : ¬ (j : Int) < (xs.length : Int) := by omega
                  have hjl : j = xs.length := by omega
                  have HV := hide (show lx hv (kcmp xs ys) = if xs.length < ys.length then -1 else 0 by
                    rw [HZ2.out.1, lx_zer]
                    have h := kcmp_end (xs := xs) (ys := ys) (by
                      have := HZ2.out.2
                      rw [hjl, List.take_of_length_le (Nat.le_refl _)] at this
                      rw [List.take_of_length_le (show xs.length ≤ ys.length by omega)]
                      exact this)
                    rw [h]
                    split
                    · rfl
                    · rw [if_neg (by omega)])
                  have e2 : ¬ (ys.length : Int) < (xs.length : Int) := by omega
                  by_cases hxy : xs.length < ys.length
                  · have e1 : (xs.length : Int) < (ys.length : Int) := by omega
                    have HV2 := hide (HV.out.trans (if_pos hxy))
                    clear hjl HV
                    go_wp2_with (refine (rsign14_any true false _).mono ?_; rintro e w8 ⟨rfl, rfl⟩)
                    go_ret
                    exact ⟨by rw [HV2.out]; rfl, K12.out.trans (HW.out.mono K12.out.size)⟩
                  · have e1 : ¬ (xs.length : Int) < (ys.length : Int) := by omega
                    have HV2 := hide (HV.out.trans (if_neg hxy))
                    clear hjl HV
                    go_wp2_with (refine (rsign14_any false false _).mono ?_; rintro e w8 ⟨rfl, rfl⟩)
                    go_ret
                    exact ⟨by rw [HV2.out]; rfl, K12.out.trans (HW.out.mono K12.out.size)⟩
              · have cz : (cv == 0) = false := by simp [hc]
                have HV := hide (HN.out hc)
                clear HN HZ
                by_cases hjx : j < xs.length
                · have q1 : (j : Int) < (xs.length : Int) := by omega
                  by_cases hjy : j < ys.length
                  · have q2 : (j : Int) < (ys.length : Int) := by omega
                    go_wp2
                    go_ret
                    exact ⟨by rw [HV.out]; rfl, K12.out.trans (HW.out.mono K12.out.size)⟩
                  · have q2 : ¬ (j : Int) < (ys.length : Int) := by omega
                    go_wp2
                    go_ret
                    exact ⟨by rw [HV.out]; rfl, K12.out.trans (HW.out.mono K12.out.size)⟩
                · have q1 : ¬ (j : Int) < (xs.length : Int) := by omega
                  go_wp2
                  go_ret
                  exact ⟨by rw [HV.out]; rfl, K12.out.trans (HW.out.mono K12.out.size)⟩
theorem rcompare_size : ∀ (N : Nat) (x : Va), SizeOf.sizeOf x ≤ N → vpts x ≤ 1048576 → RcmOf x
  | 0, x, h, _ => by cases x; simp at h
  | N + 1, x, h, hp => by
    refine rcompare_step hp fun k hk => rcompare_size N k ?_ (Nat.le_trans (kpts_mem hk) (by have := vpts_eq x; omega))
    have := List.sizeOf_lt_of_mem hk
    cases x
    simp only [Va.kids] at this
    simp at h
    omega
theorem rcompare_any {x : Va} (h : vpts x ≤ 1048576) : RcmOf x := rcompare_size _ x (Nat.le_refl _) h
end Go.Proofs.YticmlelalbaalaaGreatDoor
