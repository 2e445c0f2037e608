/- RealFolds: the walk -/
import Derived.Test.YtkaakhmncmpliabRFoldM
import Derived.Test.YtkaakhmncmpliabCList
import Derived.Test.YtkaakhmncmpliabRNum
namespace Go.Proofs.Ytkaakhmncmpliab
open Go.RowKit
set_option linter.unusedVariables false

theorem Try.infoC : (Try.prog.info? 47).map (fun i => (i.zero, i.size, i.bytes)) = some (some (.complex .f64 0 0), 1, 16) := by kernel_rfl

theorem nothing_ok (w : World) {x d : Nat} (hx : x < 18446744073709551616) (h : OpIs .sub x x d) : Calls Try.prog 24 #[.float .f64 d, .float .f64 x] w fun e w' => e = .returned (.bool true) ∧ Drew w w' := by
  by_cases f : szD x < 9218868437227405312
  · have hs := (sub_self hx).1 f
    have hd : d = 0 := by
      rcases h with h | ⟨h, _⟩
      · exact Option.some.inj ((show Ieee.double.sub x x = some d from h).symm.trans hs)
      · rw [show Ieee.double.sub x x = none from h] at hs; cases hs
    subst hd
    have q1 : ∀ w, (binOp .sub 23 (.float .f64 x) (.float .f64 x)).run Try.prog w = .ok (.float .f64 0) w := fun w => run_float_arith w .sub _ .f64 _ _ _ hs
    have o1 : (FloatKind.f64.format.order 0 0 == some .eq) = true := by decide
    have q2 : ∀ (w : World), Calls Try.prog 15 #[.float .f64 0] w fun e w' => e = .returned (.int .u64 0) ∧ w' = w := fun w => bits_any w 0
    clear h hs f
    go_enter Try.func24, Try.ntmps24
    go_wp2_with (with_reducible refine (q2 _).mono ?_; rintro e w1 ⟨rfl, rfl⟩)
    go_ret
    exact ⟨rfl, Drew.refl _⟩
  · have hs := (sub_self hx).2 f
    have hd : nanD d := by
      rcases h with h | ⟨_, h, _⟩
      · rw [show Ieee.double.sub x x = some d from h] at hs; cases hs
      · exact h
    have q1 : ∀ w, (binOp .sub 23 (.float .f64 x) (.float .f64 x)).run Try.prog w = .ok (.float .f64 (opW .sub w x x)) (opV .sub w x x) := fun w => by
      have := run_opW (P := Try.prog) w (Or.inr (Or.inl rfl) : okOp .sub) x x
      simpa [binOp] using this
    have o1 : (FloatKind.f64.format.order (opW .sub w x x) 0 == some .eq) = false := by
      have hn : nanD (opW .sub w x x) := by
        rcases opW_is .sub w x x with g | ⟨_, g, _⟩
        · rw [show Ieee.double.sub x x = some _ from g] at hs; cases hs
        · exact g
      rw [order_eq, decide_eq_true hn]
      rfl
    have o2 := order_self' d
    rw [decide_eq_true hd] at o2
    clear h hs f hd
    go_enter Try.func24, Try.ntmps24
    go_wp2
    go_ret
    exact ⟨rfl, drew_opV _ _ _ _⟩

set_option maxRecDepth 100000 in
set_option maxHeartbeats 8000000 in
theorem rfolds_walk {W : World} {v : Value} {ps : List (Int × Int)} {n : Int} (hv : PReads W v ps) (hok : POk ps) (hn : (Lit.int .i64 n).wf = true) :
    Calls Try.prog 5 #[v, .int .i64 n] W fun e w' => e = .returned (.bool true) ∧ Below W.heap.size W w' := by
  have n1 : -9223372036854775808 ≤ n ∧ n ≤ 9223372036854775807 := by simpa [Lit.wf, IntKind.min, IntKind.max, IntKind.signed, IntKind.bits] using hn
  obtain ⟨n0, n1⟩ := n1
  obtain ⟨ao, cap, rfl, hcap, hmax, hc⟩ := hv
  have hm2 : ps.length ≤ 9223372036854775807 := by unfold maxLen at hmax; omega
  clear hn
  by_cases big : 1048576 < ps.length
  · go_enter Try.func5, Try.ntmps5
    go_wp2
    go_ret
    exact ⟨rfl, Below.refl _ _⟩
  have big' : ¬ (1048576 : Int) < ps.length := by omega
  clear hcap hmax
  go_enter Try.func5, Try.ntmps5
  go_wp2
  go_loopw [5, 6] (fun out si wr => ∃ i : Nat, i ≤ ps.length ∧ si = .int .i64 i ∧ wr.ownsRow W.heap.size 47 1 out i (cvals (cx (ps.take i))) ∧ Below W.heap.size W wr) (fun _ si _ => ps.length - (intOf si).toNat)
  case atStart => exact ⟨0, by omega, rfl, by simpa [cx, cvals] using World.ownsRow_nil W W.heap.size 47 1, Below.refl _ _⟩
  case round =>
    obtain ⟨i, hi, rfl, hown, hbr⟩ := hrel
    have hsz := hbr.size
    by_cases hlt : i < ps.length
    · obtain ⟨b, off, rfl, hb, hcell⟩ := (hc.below hbr) (by omega)
      obtain ⟨g1, g2⟩ := hcell i hlt
      clear hcell
      go_wp2_with fail
      with_reducible refine (number_any _ (pre ps i) (pim ps i)).mono ?_
      rintro e w1 ⟨rfl, b1⟩
      have Ho := hide ((owns_below hown b1))
      have Hb := hide (hbr.trans (b1.mono hsz))
      have Hz := hide (Nat.le_trans hsz b1.size)
      clear hown g1 g2
      go_wp2_with (at_builtin; refine wpList_append_cplx _ rfl _ _ 46 rfl W.heap.size 47 16 Try.underlying46 Try.infoC _ i _ rfl (Ho.out.alloc _) (some ⟨w1.heap.size, 0, none⟩) 1 [((pre ps i).toNat, (pim ps i).toNat)] rfl (c_one _ _ _ _) (by unfold maxLen; simp; omega) (by simp; omega) (by have := Hz.out; simp; omega) ?_)
      intro v' w2 hown' hgrow
      have hb2 : Below W.heap.size W w2 := below_own1 (Hb.out.alloc Hz.out _) (by have := Hz.out; simp; omega) (Ho.out.alloc _) hgrow
      rw [← cx_snoc ps hlt] at hown'
      have Hown' := hide hown'
      clear hown' hgrow Ho Hb
      go_wp2
      go_roundw
      case rel => exact ⟨i + 1, by omega, rfl, by simpa using Hown'.out, hb2⟩
      case measure => simp [intOf]; omega
    · obtain rfl : i = ps.length := by omega
      rw [List.take_of_length_le (Nat.le_refl _)] at hown
      have hR := creads_of_owns hown
      have HR := hide hR
      have HB := hide hbr
      have hzl : (cx ps).length = ps.length := cx_len ps
      obtain ⟨lo, lc, hlist, hlc, hlm, hcc⟩ := hR
      rw [hzl] at hlist
      subst hlist
      rename_i out
      have HC := hide hcc
      clear hown hc hcc
      go_upto_if 38 with fail
      have tb : (n.tmod ((ps.length : Int) + 1)).natAbs < ps.length + 1 := by
        rw [Int.natAbs_tmod, show ((ps.length : Int) + 1).natAbs = ps.length + 1 by omega]
        exact Nat.mod_lt _ (by omega)
      generalize n.tmod ((ps.length : Int) + 1) = t at *
      go_cut [1] from 15 (fun s wx => ∃ k : Nat, k ≤ ps.length ∧ s = .int .i64 k ∧ wr = wx)
      case first =>
        by_cases c : t < 0
        · have c' : decide (t < 0) = true := decide_eq_true c
          go_wp2
          go_meet
          case rel => exact ⟨(t + ps.length + 1).toNat, by omega, by rw [Int.toNat_of_nonneg (by omega)], rfl⟩
        · have c' : decide (t < 0) = false := decide_eq_false c
          go_wp2
          go_meet
          case rel => exact ⟨t.toNat, by omega, by rw [Int.toNat_of_nonneg (by omega)], rfl⟩
      case rest =>
        obtain ⟨k, hk, rfl, rfl⟩ := hcut
        have pb : ps.length ≤ 1048576 := by omega
        clear tb n0 n1 big big'
        have HCk := hide (HC.out.take (n := k) (by rw [hzl]; exact hk))
        have HCl := hide (show ((cx ps).take k).length = k by rw [List.length_take, hzl]; omega)
        have km : k ≤ maxLen := by unfold maxLen at hlm ⊢; omega
        go_wp2_with fail
        with_reducible refine (plus_n HCk.out HCl.out km).mono ?_
        rintro e w1 ⟨fx, fy, rfl, hS1, hD1⟩
        have HS1 := hide hS1
        have HB1 := hide (HB.out.trans (hD1.below _))
        have HC1 := hide (HC.out.below (hD1.below _))
        clear hS1 hD1 HB HC HCk
        have HDl := hide (show ((cx ps).drop k).length = ps.length - k by rw [List.length_drop, hzl])
        have HDs := hide (ccells_sliced (k := k) (HC1.out.below (bel_new w1 (.cells #[.complex .f64 fx fy] 47))) hlc)
        by_cases ek : k = lc
        · subst ek
          have HDc := hide (show CCells (w1.alloc (.cells #[.complex .f64 fx fy] 47)) lo ((cx ps).drop k) by have := HDs.out; rwa [if_pos rfl] at this)
          clear HDs
          go_wp2_with (at_builtin; refine wpList_append_cplx_n _ rfl _ _ 46 rfl w1.heap.size 47 16 Try.underlying46 Try.infoC _ 1 [(fx, fy)] rfl (owns_one _ _ _ _) _ _ _ ((cx ps).drop k) HDl.out rfl HDc.out (by unfold maxLen; omega) (by omega) (by simp) ?_)
          intro v2 w2 hown2 hgrow2
          have b2 : Below w1.heap.size w1 w2 := below_own1 (bel_new _ _) (by simp) (owns_one _ _ _ _) hgrow2
          have HC2 := hide (HC1.out.below b2)
          have HB2 := hide (HB1.out.trans (b2.mono (HB1.out.size)))
          have hown3 : w2.ownsRow w1.heap.size 47 1 v2 (1 + (ps.length - k)) (cvals ((fx, fy) :: (cx ps).drop k)) := hown2
          obtain ⟨ro, rc, hv2, _, _, hrc⟩ := creads_of_owns hown3
          have hl2 : ((fx, fy) :: (cx ps).drop k).length = 1 + (ps.length - k) := by rw [List.length_cons, HDl.out, Nat.add_comm]
          rw [hl2] at hv2
          subst hv2
          have HR2 := hide hrc
          have HR2l := hide hl2
          clear hown2 hown3 hgrow2 b2 hrc HC1 HB1 HDc hl2
          go_wp2_with fail
          with_reducible refine (plus_n HR2.out HR2l.out (by unfold maxLen; omega)).mono ?_
          rintro e w3 ⟨rx, ry, rfl, hS2, hD2⟩
          have HC3 := hide (HC2.out.below (hD2.below _))
          have HB3 := hide (HB2.out.trans (hD2.below _))
          have HS2 := hide hS2
          clear hS2 hD2 HC2 HB2 HR2
          go_wp2_with fail
          with_reducible refine (plus_n HC3.out hzl (by unfold maxLen at hlm ⊢; omega)).mono ?_
          rintro e w4 ⟨tx, ty, rfl, hS3, hD3⟩
          have HC4 := hide (HC3.out.below (hD3.below _))
          have HB4 := hide (HB3.out.trans (hD3.below _))
          have HS3 := hide hS3
          clear hS3 hD3 HC3 HB3
          have hcok : COk (cx ps) := by
            intro z hz
            obtain ⟨i, hi, rfl⟩ := List.getElem_of_mem hz
            have h1 := cre_cx (ps := ps) i
            have h2 := hok i
            have e1 : cre (cx ps) i = (cx ps)[i].1 := by unfold cre; rw [List.getD_eq_getElem?_getD, List.getElem?_eq_getElem hi]; rfl
            have e2 : cim (cx ps) i = (cx ps)[i].2 := by unfold cim; rw [List.getD_eq_getElem?_getD, List.getElem?_eq_getElem hi]; rfl
            rw [← e1, ← e2, h1.1, h1.2]
            omega
          have hnv := sums_never HS1.out (fun z hz => hcok z (List.mem_of_mem_take hz)) (by decide) (by decide) (by decide) (by decide)
          have hsame : oneD rx = oneD tx ∧ oneD ry = oneD ty := by
            obtain ⟨a1, a2⟩ := sum_fs HS1.out
            obtain ⟨b1, b2⟩ := sum_fs HS2.out
            obtain ⟨c1, c2⟩ := sum_fs HS3.out
            have z0 : oneD 0 = 0 := by decide
            rw [z0] at a1 a2 b1 b2 c1 c2
            rw [b1, b2, c1, c2]
            have hz : cx ps = (cx ps).take k ++ (cx ps).drop k := (List.take_append_drop _ _).symm
            rw [show FS ((cx ps).map Prod.fst) 0 = FS (((cx ps).take k ++ (cx ps).drop k).map Prod.fst) 0 by rw [← hz], show FS ((cx ps).map Prod.snd) 0 = FS (((cx ps).take k ++ (cx ps).drop k).map Prod.snd) 0 by rw [← hz]]
            rw [List.map_append, List.map_append, List.map_cons, List.map_cons, FS_cons, FS_cons, FS_append, FS_append, ← a1, ← a2]
            have f1 : oneD (sumD (0 : Int).toNat fx) = oneD fx := sum_zero hnv.1.1 hnv.1.2
            have f2 : oneD (sumD (0 : Int).toNat fy) = oneD fy := sum_zero hnv.2.1 hnv.2.2
            exact ⟨congrArg _ f1, congrArg _ f2⟩
          have s1 : ∀ (w : World), Calls Try.prog 20 #[.complex .f64 rx ry, .complex .f64 tx ty] w fun e w' => e = .returned (.bool true) ∧ w' = w := fun w => by
            have := samec_any w rx ry tx ty
            rwa [show (oneD rx == oneD tx && oneD ry == oneD ty) = true by simp [hsame.1, hsame.2]] at this
          have Hok := hide hcok
          have Hnv := hide hnv
          clear hsame HS1 HS2 HS3 hcok hnv
          go_wp2_with (with_reducible refine (s1 _).mono ?_; rintro e w5 ⟨rfl, rfl⟩)
          go_loopw [9] (fun si wx => ∃ i : Nat, i ≤ ps.length ∧ si = .int .i64 i ∧ Hid (CCells wx lo (cx ps)) ∧ Hid (Below W.heap.size W wx)) (fun si _ => ps.length - (intOf si).toNat)
          case atStart => exact ⟨0, by omega, rfl, HC4, HB4⟩
          case round =>
            clear HC4 HB4
            rename_i hrel
            obtain ⟨i, hi, rfl, HX, HB⟩ := hrel
            by_cases lt : i < ps.length
            · obtain ⟨b, off, hlo, hb, hcell⟩ := HX.out (by rw [hzl]; omega)
              have hg := hcell i (by rw [hzl]; exact lt)
              subst hlo
              have hmem : (cx ps)[i]? = some (cre (cx ps) i, cim (cx ps) i) := by
                have h0 : i < (cx ps).length := by rw [hzl]; exact lt
                unfold cre cim
                rw [List.getD_eq_getElem?_getD, List.getElem?_eq_getElem h0]
                rfl
              obtain ⟨za, zc⟩ := Hok.out _ (List.mem_of_getElem? hmem)
              dsimp only at za zc
              generalize cre (cx ps) i = a at *
              generalize cim (cx ps) i = c at *
              clear hcell hmem
              go_wp2_with fail
              with_reducible refine (flip_any _ a c).mono ?_
              rintro e x1 ⟨rfl, rfl⟩
              go_wp2_with fail
              with_reducible refine (flip_any _ a (flipD c)).mono ?_
              rintro e x1 ⟨rfl, rfl⟩
              rw [flip_flip]
              have sc : ∀ (w : World), Calls Try.prog 20 #[.complex .f64 a c, .complex .f64 a c] w fun e w' => e = .returned (.bool true) ∧ w' = w := fun w => by
                have := samec_any w a c a c
                rwa [show (oneD a == oneD a && oneD c == oneD c) = true by simp] at this
              go_wp2_with fail
              with_reducible refine (sc _).mono ?_
              rintro e x1 ⟨rfl, rfl⟩
              have K1 := hide (bel_new x1 (.cells #[.complex .f64 a c, .complex .f64 fx fy] 47))
              have HX1 := hide (HX.out.below K1.out)
              have HB1 := hide (HB.out.trans (K1.out.mono HB.out.size))
              have T1 := hide (c_two x1 47 a c fx fy)
              clear HX HB hg
              go_wp2_with fail
              with_reducible refine (plus_n T1.out (l_two _ _) two_le).mono ?_
              rintro e x2 ⟨p, q, rfl, hP, hD⟩
              have HX2 := hide (HX1.out.below (hD.below _))
              have HB2 := hide (HB1.out.trans (hD.below _))
              clear HX1 HB1 T1 K1 hD
              have K2 := hide (bel_new x2 (.cells #[.complex .f64 fx fy, .complex .f64 a c] 47))
              have HX3 := hide (HX2.out.below K2.out)
              have HB3 := hide (HB2.out.trans (K2.out.mono HB2.out.size))
              have T2 := hide (c_two x2 47 fx fy a c)
              clear HX2 HB2
              go_wp2_with fail
              with_reducible refine (plus_n T2.out (l_two _ _) two_le).mono ?_
              rintro e x3 ⟨p', q', rfl, hP', hD⟩
              have HX4 := hide (HX3.out.below (hD.below _))
              have HB4 := hide (HB3.out.trans (hD.below _))
              have sw : oneD p = oneD p' ∧ oneD q = oneD q' := by
                obtain ⟨u1, v1, h1, h2, u2, v2, h3, h4, rfl, rfl⟩ := hP
                obtain ⟨y1, z1, g1, g2, y2, z2, g3, g4, rfl, rfl⟩ := hP'
                obtain ⟨⟨k1, k2⟩, ⟨k3, k4⟩⟩ := Hnv.out
                exact ⟨sum_swap za k1 k2 h1 h3 g1 g3, sum_swap zc k3 k4 h2 h4 g2 g4⟩
              have sd : ∀ (w : World), Calls Try.prog 20 #[.complex .f64 p q, .complex .f64 p' q'] w fun e w' => e = .returned (.bool true) ∧ w' = w := fun w => by
                have := samec_any w p q p' q'
                rwa [show (oneD p == oneD p' && oneD q == oneD q') = true by simp [sw.1, sw.2]] at this
              clear HX3 HB3 T2 K2 hD hP hP' sw
              go_wp2_with fail
              with_reducible refine (sd _).mono ?_
              rintro e x4 ⟨rfl, rfl⟩
              go_wp2_with fail
              with_reducible refine (minus_any _ a c a c).mono ?_
              rintro e x5 ⟨mx, my, rfl, hmx, hmy, hD⟩
              have HX5 := hide (HX4.out.below (hD.below _))
              have HB5 := hide (HB4.out.trans (hD.below _))
              have HMx := hide hmx
              have HMy := hide hmy
              clear HX4 HB4 hD hmx hmy
              go_wp2_with fail
              with_reducible refine (split_any _ mx my).mono ?_
              rintro e x6 ⟨rfl, rfl⟩
              go_wp2_with fail
              with_reducible refine (split_any _ a c).mono ?_
              rintro e x6 ⟨rfl, rfl⟩
              go_wp2_with fail
              with_reducible refine (nothing_ok _ za HMx.out).mono ?_
              rintro e x7 ⟨rfl, hD⟩
              have HX6 := hide (HX5.out.below (hD.below _))
              have HB6 := hide (HB5.out.trans (hD.below _))
              clear HX5 HB5 hD
              go_wp2_with fail
              with_reducible refine (nothing_ok _ zc HMy.out).mono ?_
              rintro e x8 ⟨rfl, hD⟩
              have HX7 := hide (HX6.out.below (hD.below _))
              have HB7 := hide (HB6.out.trans (hD.below _))
              clear HX6 HB6 hD
              go_wp2
              go_roundw
              case rel => exact ⟨i + 1, by omega, rfl, HX7, HB7⟩
              case measure => simp [intOf]; omega
            · go_wp2_with fail
              with_reducible refine (lives_ok _).mono ?_
              rintro e x9 ⟨rfl, b9⟩
              go_wp2
              go_ret
              exact ⟨rfl, HB.out.trans (b9.mono HB.out.size)⟩

        · have ek' : ¬ lc = k := fun h => ek h.symm
          have HDc := hide (show CCells (w1.alloc (.cells #[.complex .f64 fx fy] 47)) (Option.map (fun x => x.add k) lo) ((cx ps).drop k) by have := HDs.out; rwa [if_neg ek'] at this)
          clear HDs
          go_wp2_with (at_builtin; refine wpList_append_cplx_n _ rfl _ _ 46 rfl w1.heap.size 47 16 Try.underlying46 Try.infoC _ 1 [(fx, fy)] rfl (owns_one _ _ _ _) _ _ _ ((cx ps).drop k) HDl.out rfl HDc.out (by unfold maxLen; omega) (by omega) (by simp) ?_)
          intro v2 w2 hown2 hgrow2
          have b2 : Below w1.heap.size w1 w2 := below_own1 (bel_new _ _) (by simp) (owns_one _ _ _ _) hgrow2
          have HC2 := hide (HC1.out.below b2)
          have HB2 := hide (HB1.out.trans (b2.mono (HB1.out.size)))
          have hown3 : w2.ownsRow w1.heap.size 47 1 v2 (1 + (ps.length - k)) (cvals ((fx, fy) :: (cx ps).drop k)) := hown2
          obtain ⟨ro, rc, hv2, _, _, hrc⟩ := creads_of_owns hown3
          have hl2 : ((fx, fy) :: (cx ps).drop k).length = 1 + (ps.length - k) := by rw [List.length_cons, HDl.out, Nat.add_comm]
          rw [hl2] at hv2
          subst hv2
          have HR2 := hide hrc
          have HR2l := hide hl2
          clear hown2 hown3 hgrow2 b2 hrc HC1 HB1 HDc hl2
          go_wp2_with fail
          with_reducible refine (plus_n HR2.out HR2l.out (by unfold maxLen; omega)).mono ?_
          rintro e w3 ⟨rx, ry, rfl, hS2, hD2⟩
          have HC3 := hide (HC2.out.below (hD2.below _))
          have HB3 := hide (HB2.out.trans (hD2.below _))
          have HS2 := hide hS2
          clear hS2 hD2 HC2 HB2 HR2
          go_wp2_with fail
          with_reducible refine (plus_n HC3.out hzl (by unfold maxLen at hlm ⊢; omega)).mono ?_
          rintro e w4 ⟨tx, ty, rfl, hS3, hD3⟩
          have HC4 := hide (HC3.out.below (hD3.below _))
          have HB4 := hide (HB3.out.trans (hD3.below _))
          have HS3 := hide hS3
          clear hS3 hD3 HC3 HB3
          have hcok : COk (cx ps) := by
            intro z hz
            obtain ⟨i, hi, rfl⟩ := List.getElem_of_mem hz
            have h1 := cre_cx (ps := ps) i
            have h2 := hok i
            have e1 : cre (cx ps) i = (cx ps)[i].1 := by unfold cre; rw [List.getD_eq_getElem?_getD, List.getElem?_eq_getElem hi]; rfl
            have e2 : cim (cx ps) i = (cx ps)[i].2 := by unfold cim; rw [List.getD_eq_getElem?_getD, List.getElem?_eq_getElem hi]; rfl
            rw [← e1, ← e2, h1.1, h1.2]
            omega
          have hnv := sums_never HS1.out (fun z hz => hcok z (List.mem_of_mem_take hz)) (by decide) (by decide) (by decide) (by decide)
          have hsame : oneD rx = oneD tx ∧ oneD ry = oneD ty := by
            obtain ⟨a1, a2⟩ := sum_fs HS1.out
            obtain ⟨b1, b2⟩ := sum_fs HS2.out
            obtain ⟨c1, c2⟩ := sum_fs HS3.out
            have z0 : oneD 0 = 0 := by decide
            rw [z0] at a1 a2 b1 b2 c1 c2
            rw [b1, b2, c1, c2]
            have hz : cx ps = (cx ps).take k ++ (cx ps).drop k := (List.take_append_drop _ _).symm
            rw [show FS ((cx ps).map Prod.fst) 0 = FS (((cx ps).take k ++ (cx ps).drop k).map Prod.fst) 0 by rw [← hz], show FS ((cx ps).map Prod.snd) 0 = FS (((cx ps).take k ++ (cx ps).drop k).map Prod.snd) 0 by rw [← hz]]
            rw [List.map_append, List.map_append, List.map_cons, List.map_cons, FS_cons, FS_cons, FS_append, FS_append, ← a1, ← a2]
            have f1 : oneD (sumD (0 : Int).toNat fx) = oneD fx := sum_zero hnv.1.1 hnv.1.2
            have f2 : oneD (sumD (0 : Int).toNat fy) = oneD fy := sum_zero hnv.2.1 hnv.2.2
            exact ⟨congrArg _ f1, congrArg _ f2⟩
          have s1 : ∀ (w : World), Calls Try.prog 20 #[.complex .f64 rx ry, .complex .f64 tx ty] w fun e w' => e = .returned (.bool true) ∧ w' = w := fun w => by
            have := samec_any w rx ry tx ty
            rwa [show (oneD rx == oneD tx && oneD ry == oneD ty) = true by simp [hsame.1, hsame.2]] at this
          have Hok := hide hcok
          have Hnv := hide hnv
          clear hsame HS1 HS2 HS3 hcok hnv
          go_wp2_with (with_reducible refine (s1 _).mono ?_; rintro e w5 ⟨rfl, rfl⟩)
          generalize Option.map (fun x => x.add k) lo = rr at *
          go_loopw [9] (fun si wx => ∃ i : Nat, i ≤ ps.length ∧ si = .int .i64 i ∧ Hid (CCells wx lo (cx ps)) ∧ Hid (Below W.heap.size W wx)) (fun si _ => ps.length - (intOf si).toNat)
          case atStart => exact ⟨0, by omega, rfl, HC4, HB4⟩
          case round =>
            clear HC4 HB4
            rename_i hrel
            obtain ⟨i, hi, rfl, HX, HB⟩ := hrel
            by_cases lt : i < ps.length
            · obtain ⟨b, off, hlo, hb, hcell⟩ := HX.out (by rw [hzl]; omega)
              have hg := hcell i (by rw [hzl]; exact lt)
              subst hlo
              have hmem : (cx ps)[i]? = some (cre (cx ps) i, cim (cx ps) i) := by
                have h0 : i < (cx ps).length := by rw [hzl]; exact lt
                unfold cre cim
                rw [List.getD_eq_getElem?_getD, List.getElem?_eq_getElem h0]
                rfl
              obtain ⟨za, zc⟩ := Hok.out _ (List.mem_of_getElem? hmem)
              dsimp only at za zc
              generalize cre (cx ps) i = a at *
              generalize cim (cx ps) i = c at *
              clear hcell hmem
              go_wp2_with fail
              with_reducible refine (flip_any _ a c).mono ?_
              rintro e x1 ⟨rfl, rfl⟩
              go_wp2_with fail
              with_reducible refine (flip_any _ a (flipD c)).mono ?_
              rintro e x1 ⟨rfl, rfl⟩
              rw [flip_flip]
              have sc : ∀ (w : World), Calls Try.prog 20 #[.complex .f64 a c, .complex .f64 a c] w fun e w' => e = .returned (.bool true) ∧ w' = w := fun w => by
                have := samec_any w a c a c
                rwa [show (oneD a == oneD a && oneD c == oneD c) = true by simp] at this
              go_wp2_with fail
              with_reducible refine (sc _).mono ?_
              rintro e x1 ⟨rfl, rfl⟩
              have K1 := hide (bel_new x1 (.cells #[.complex .f64 a c, .complex .f64 fx fy] 47))
              have HX1 := hide (HX.out.below K1.out)
              have HB1 := hide (HB.out.trans (K1.out.mono HB.out.size))
              have T1 := hide (c_two x1 47 a c fx fy)
              clear HX HB hg
              go_wp2_with fail
              with_reducible refine (plus_n T1.out (l_two _ _) two_le).mono ?_
              rintro e x2 ⟨p, q, rfl, hP, hD⟩
              have HX2 := hide (HX1.out.below (hD.below _))
              have HB2 := hide (HB1.out.trans (hD.below _))
              clear HX1 HB1 T1 K1 hD
              have K2 := hide (bel_new x2 (.cells #[.complex .f64 fx fy, .complex .f64 a c] 47))
              have HX3 := hide (HX2.out.below K2.out)
              have HB3 := hide (HB2.out.trans (K2.out.mono HB2.out.size))
              have T2 := hide (c_two x2 47 fx fy a c)
              clear HX2 HB2
              go_wp2_with fail
              with_reducible refine (plus_n T2.out (l_two _ _) two_le).mono ?_
              rintro e x3 ⟨p', q', rfl, hP', hD⟩
              have HX4 := hide (HX3.out.below (hD.below _))
              have HB4 := hide (HB3.out.trans (hD.below _))
              have sw : oneD p = oneD p' ∧ oneD q = oneD q' := by
                obtain ⟨u1, v1, h1, h2, u2, v2, h3, h4, rfl, rfl⟩ := hP
                obtain ⟨y1, z1, g1, g2, y2, z2, g3, g4, rfl, rfl⟩ := hP'
                obtain ⟨⟨k1, k2⟩, ⟨k3, k4⟩⟩ := Hnv.out
                exact ⟨sum_swap za k1 k2 h1 h3 g1 g3, sum_swap zc k3 k4 h2 h4 g2 g4⟩
              have sd : ∀ (w : World), Calls Try.prog 20 #[.complex .f64 p q, .complex .f64 p' q'] w fun e w' => e = .returned (.bool true) ∧ w' = w := fun w => by
                have := samec_any w p q p' q'
                rwa [show (oneD p == oneD p' && oneD q == oneD q') = true by simp [sw.1, sw.2]] at this
              clear HX3 HB3 T2 K2 hD hP hP' sw
              go_wp2_with fail
              with_reducible refine (sd _).mono ?_
              rintro e x4 ⟨rfl, rfl⟩
              go_wp2_with fail
              with_reducible refine (minus_any _ a c a c).mono ?_
              rintro e x5 ⟨mx, my, rfl, hmx, hmy, hD⟩
              have HX5 := hide (HX4.out.below (hD.below _))
              have HB5 := hide (HB4.out.trans (hD.below _))
              have HMx := hide hmx
              have HMy := hide hmy
              clear HX4 HB4 hD hmx hmy
              go_wp2_with fail
              with_reducible refine (split_any _ mx my).mono ?_
              rintro e x6 ⟨rfl, rfl⟩
              go_wp2_with fail
              with_reducible refine (split_any _ a c).mono ?_
              rintro e x6 ⟨rfl, rfl⟩
              go_wp2_with fail
              with_reducible refine (nothing_ok _ za HMx.out).mono ?_
              rintro e x7 ⟨rfl, hD⟩
              have HX6 := hide (HX5.out.below (hD.below _))
              have HB6 := hide (HB5.out.trans (hD.below _))
              clear HX5 HB5 hD
              go_wp2_with fail
              with_reducible refine (nothing_ok _ zc HMy.out).mono ?_
              rintro e x8 ⟨rfl, hD⟩
              have HX7 := hide (HX6.out.below (hD.below _))
              have HB7 := hide (HB6.out.trans (hD.below _))
              clear HX6 HB6 hD
              go_wp2
              go_roundw
              case rel => exact ⟨i + 1, by omega, rfl, HX7, HB7⟩
              case measure => simp [intOf]; omega
            · go_wp2_with fail
              with_reducible refine (lives_ok _).mono ?_
              rintro e x9 ⟨rfl, b9⟩
              go_wp2
              go_ret
              exact ⟨rfl, HB.out.trans (b9.mono HB.out.size)⟩


end Go.Proofs.Ytkaakhmncmpliab
