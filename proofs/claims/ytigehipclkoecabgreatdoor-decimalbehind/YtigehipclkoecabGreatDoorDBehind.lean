/- DecimalBehind: the walk -/
import Derived.Test.YtigehipclkoecabGreatDoorDLaw
import Derived.Test.YtigehipclkoecabGreatDoorDLives
import Derived.Test.YtigehipclkoecabGreatDoorAppZero
namespace Go.Proofs.YtigehipclkoecabGreatDoor
open Go.RowKit
set_option linter.unusedVariables false

theorem row_owns {k : IntKind} {E : TypeId} {w : World} {g base : Nat} {zs : List Int} (h : Row k E w g zs) (hb : base ≤ g) (hm : zs.length ≤ maxLen) : w.ownsRow base E 1 (.slice (some ⟨g, 0, none⟩) zs.length zs.length) zs.length (zs.map (Value.int k)) :=
  ⟨by simp, .inr ⟨g, zs.length, (zs.map (Value.int k)).toArray, rfl, hb, h, Nat.le_refl _, hm, by simp, by simpa using List.take_of_length_le (by simp)⟩⟩
theorem own_below {w0 w w' : World} {B : Nat} {E : TypeId} {v : Value} {n : Nat} {xs : List Value} (h : Below B w0 w) (hB : B ≤ w.heap.size) (ho : w.ownsRow B E 1 v n xs) (hg : w.grownBy w' v.ownBlock) : Below B w0 w' :=
  h.grown hg hB (fun k hk => (ho.lt k hk).1)
theorem one_cell (w : World) (E : TypeId) (k : IntKind) (x : Int) : Cells k (w.alloc (.cells #[.int k x] E)) (some ⟨w.heap.size, 0, none⟩) [x] := by
  intro _
  refine ⟨w.heap.size, 0, rfl, by simp, fun i hi => ?_⟩
  have hi0 : i = 0 := by simpa using hi
  subst hi0
  rw [World.cell?_alloc_at _ _ _ _ (by simp)]
  rfl
theorem owns_keep {w w' : World} {base : Nat} {e : TypeId} {size : Nat} {v : Value} {n : Nat} {xs : List Value} (h : w.ownsRow base e size v n xs) (hb : Below w.heap.size w w') : w'.ownsRow base e size v n xs := by
  obtain ⟨h1, h2⟩ := h
  refine ⟨h1, ?_⟩
  rcases h2 with h2 | ⟨g, cap, cur, h3, h4, h5, h6, h7, h8⟩
  · exact .inl h2
  · exact .inr ⟨g, cap, cur, h3, h4, (hb.block g (Array.getElem?_eq_some_iff.1 h5).1).trans h5, h6, h7, h8⟩
/-- string(b) of bytes -/
theorem reads_txt {w : World} {v : Value} {zs : List Int} (h : Reads .u8 w v zs) (h0 : 0 < zs.length) : (convert 34 9 v).run Tryz.prog w = .ok (.string (strOfNums zs)) w := by
  obtain ⟨ao, cap, rfl, h1, h2, h3⟩ := h
  obtain ⟨b, off, rfl, hb, hc⟩ := h3 h0
  exact run_convert_bytes_arg w 34 5 Tryz.underlying34 Tryz.underlying5 b off zs.length cap zs rfl (fun i hi => hc i hi) 9 Tryz.underlying9
theorem own_other {w : World} {base : Nat} {E T : TypeId} {v : Value} {n h : Nat} {xs : List Value} {cs : Array Value} {fr : Nat × Nat} (ho : w.ownsRow base E 1 v n xs) (hb : w.heap[h]? = some (.cells cs T fr)) (hne : E ≠ T) : v.ownBlock ≠ some h := by
  rcases ho.2 with ⟨rfl, _⟩ | ⟨g, cap, cur, rfl, _, h5, _⟩
  · simp [Value.ownBlock]
  · intro e
    simp [Value.ownBlock] at e
    subst e
    rw [h5] at hb
    injection hb with hb
    injection hb with _ hb _
    exact hne hb
theorem grown_block {w w' : World} {o : Option Nat} {h : Nat} (hg : w.grownBy w' o) (hl : h < w.heap.size) (hne : o ≠ some h) : w'.heap[h]? = w.heap[h]? := hg.block h hl (fun e => hne e.symm)
/-- digits behind the 800th -/
theorem behind_math {F L I P r1 r2 : Int} {zs ys : List Int} (W : Wide F L I) (hz : Dg zs) (hl : zs.length = 800) (h0 : Nt.lb zs 0 ≠ 48) (hy : Dg ys) (some_ : Bool) (s0 : some_ = false → dg ys = 0) (s1 : some_ = true → 0 < dg ys)
    (v1 : some_ = false → DV F L I (dg zs) (P - (800 : Nat)) r1) (v1' : some_ = true → DV F L I (dg (zs ++ [49])) (P - (801 : Nat)) r1) (v2 : DV F L I (dg (zs ++ ys)) (P - (800 + ys.length : Nat)) r2) : r1 = r2 := by
  have ld : tn 799 ≤ dg zs := by have k := dg_lead' hz (by omega) h0; rwa [hl] at k
  have e : dg (zs ++ ys) = dg zs * tn ys.length + dg ys := dg_append _ _
  have ry := dg_range hy
  cases some_
  · have k := dv_behind ys.length (v1 rfl)
    rw [s0 rfl, Int.add_zero] at e
    rw [e] at v2
    rw [show P - ((800 : Nat) : Int) - (ys.length : Int) = P - ((800 + ys.length : Nat) : Int) by omega] at k
    exact dv_first W k v2
  · have v := v1' rfl
    rw [dg_snoc] at v
    have p := s1 rfl
    by_cases c : P ≤ 800
    · have t10 : tn 1 = 10 := by decide
      have k := dv_cut (A := dg zs) (N := dg zs * 10 + (49 - 48)) (N' := dg (zs ++ ys)) (q := P - (801 : Nat)) (q' := P - (800 + ys.length : Nat)) (j := 1) (j' := ys.length) W ld (by rw [t10]; omega) (by rw [t10]; omega) (by omega) (by rw [e, Int.add_mul, Int.one_mul]; omega) (by omega) (by omega) v
      exact dv_first W k v2
    · have a := dv_large (k := 800) (N := dg zs * 10 + (49 - 48)) (q := P - (801 : Nat)) W (by have k := tn_succ 799; rw [show 799 + 1 = 800 from rfl] at k; omega) (by omega)
      have T := tn_pos ys.length
      have b := dv_large (k := 799 + ys.length) (N := dg (zs ++ ys)) (q := P - (800 + ys.length : Nat)) W (by
        rw [tn_add, e]
        have := Int.mul_le_mul_of_nonneg_right ld (Int.le_of_lt T)
        omega) (by omega)
      rw [dv_first W v a, dv_first W v2 b]

set_option maxRecDepth 100000 in
set_option maxHeartbeats 8000000 in
theorem behind_walk {w : World} (TT : Lays w ∧ Brn w) {v : Int} (v0 : 0 ≤ v) (v1 : v < 256) {ng : Bool} {P : Int} (hP : -9223372036854775808 ≤ P) (hP2 : P ≤ 9223372036854775807) {va vb : Value} {xs us : List Int} (ha : Reads .u8 w va xs) (hx : Byt xs) (hb : Reads .u8 w vb us) (hu : Byt us) :
    Calls Tryz.prog 5 #[.int .u8 v, .bool ng, va, vb, .int .i64 P] w fun e w' => e = .returned (.bool true) ∧ Below w.heap.size w w' := by
  obtain ⟨T, U⟩ := TT
  obtain ⟨F, L, I, S, n, hW⟩ := wd_of v v0 v1
  have HW := hide hW
  have HX := hide hx
  have HU := hide hu
  clear hW hx hu
  obtain ⟨ao, ca, rfl, la1, la2, Ca⟩ := ha
  obtain ⟨bo, cb, rfl, lb1, lb2, Cb⟩ := hb
  have HCa := hide Ca
  have HCb := hide Cb
  clear Ca Cb
  go_enter Tryz.func5, Tryz.ntmps5
  go_wp2_with fail
  refine (lives7 T U).mono ?_
  rintro x w1 ⟨rfl, b1⟩
  go_wp2_with (at_make; refine wpList_make_row _ rfl _ _ 34 rfl 5 .u8 1 Tryz.underlying34 Tryz.infoB8 _ _ _ _ 800 800 rfl rfl (by omega) (by omega) (Nat.le_refl _) (by omega) (by unfold maxLen; omega) ?_)
  intro w2 hr hbel hsz
  have K2 : Below w.heap.size w w2 := below_trans b1 hbel
  have hB : w.heap.size ≤ w1.heap.size := b1.size
  clear b1 hbel hsz
  generalize w1.heap.size = g at *
  go_wp2
  go_loopg [12] 800 (fun c iv wr => ∃ (i : Nat) (zs : List Int), i ≤ 800 ∧ c = 800 - i ∧ iv = .int .i64 i ∧ zs.length = 800 ∧ Row .u8 5 wr g zs ∧ (∀ j, j < i → 48 ≤ Nt.lb zs j ∧ Nt.lb zs j ≤ 57) ∧ Below w.heap.size w wr)
  case atStart => exact ⟨0, _, by omega, rfl, rfl, by simp, hr, fun j hj => absurd hj (by omega), K2⟩
  case round =>
    obtain ⟨i, zs, hi, hgi, rfl, hzl, hrow, hD, hbr⟩ := hrel
    have HD := hide hD
    clear hD
    by_cases hi8 : i < 800
    · have q4 : (i : Int) < 800 := by omega
      have g1 := hrow.cell (i := i) (by omega)
      have f1 := hrow.frozen i
      have hrow2 := hrow.set i 48
      have r2 : Row .u8 5 (wr.setCell ⟨g, i, none⟩ (.int .u8 48)) g (zs.set i 48) := hrow2
      have hz2 : (zs.set i 48).length = 800 := by rw [List.length_set]; exact hzl
      have b2 : Below w.heap.size w (wr.setCell ⟨g, i, none⟩ (.int .u8 48)) := hbr.setCell (p := ⟨g, i, none⟩) hB _
      have g2 := r2.cell (i := i) (by omega)
      have f2 := r2.frozen i
      have HR := hide (And.intro r2 (And.intro hz2 b2))
      have HJ := hide (show ∀ (q : Int) (zz : List Int), zz.length = 800 → (∀ j, j ≠ i → Nt.lb zz j = Nt.lb zs j) → Nt.lb zz i = q → 48 ≤ q → q ≤ 57 → ∀ j, j < i + 1 → 48 ≤ Nt.lb zz j ∧ Nt.lb zz j ≤ 57 from fun q zz h1 h2 h3 h4 h5 j hj => by
        rcases Nat.lt_or_ge j i with k | k
        · rw [h2 j (by omega)]; exact HD.out j k
        · rw [show j = i by omega, h3]; exact ⟨h4, h5⟩)
      by_cases hix : i < xs.length
      · obtain ⟨bk, off, rfl, hbk, hcell⟩ := (HCa.out.below b2) (by omega)
        have hc := hcell i hix
        clear hcell
        obtain ⟨d, hdd⟩ : ∃ d, Nt.lb xs i = d := ⟨_, rfl⟩
        have dr := HX.out _ (lb_in hix)
        rw [hdd] at hc dr
        obtain ⟨d0, d1⟩ := dr
        clear hdd
        have q5 : (i : Int) < (xs.length : Int) := by omega
        have wd : IntKind.u8.wrap (48 + d % 10) = 48 + d % 10 := by rw [IntKind.wrap_u8]; omega
        go_wp2
        go_roundg (800 - (i + 1))
        case measure => omega
        case rel => exact ⟨i + 1, (zs.set i 48).set i (48 + d % 10), by omega, rfl, by simp, by rw [List.length_set]; exact HR.out.2.1, HR.out.1.set i (48 + d % 10), HJ.out (48 + d % 10) _ (by rw [List.length_set]; exact HR.out.2.1) (fun j hj => by rw [Nt.lb_set_ne (by omega), Nt.lb_set_ne (by omega)]) (Nt.lb_set_eq (by rw [List.length_set]; omega) _) (by omega) (by omega), HR.out.2.2.setCell (p := ⟨g, i, none⟩) hB _⟩
      · have q5 : ¬ (i : Int) < (xs.length : Int) := by omega
        go_wp2
        go_roundg (800 - (i + 1))
        case measure => omega
        case rel => exact ⟨i + 1, zs.set i 48, by omega, rfl, by simp, HR.out.2.1, HR.out.1, HJ.out 48 _ HR.out.2.1 (fun j hj => by rw [Nt.lb_set_ne (by omega)]) (Nt.lb_set_eq (by omega) _) (by omega) (by omega), HR.out.2.2⟩
    · have hi9 : i = 800 := by omega
      subst hi9
      have HDg := hide (all_dg (es := zs) (fun j hj => HD.out j (by omega)))
      have g0 := hrow.cell (i := 0) (by omega)
      have f0 := hrow.frozen 0
      clear HD
      -- the first digit
      by_cases z0 : Nt.lb zs 0 = 48
      · have z1 : (Nt.lb zs 0 == 48) = true := by simp [z0]
        have r3 := hrow.set 0 49
        have b3 : Below w.heap.size w (wr.setCell ⟨g, 0, none⟩ (.int .u8 49)) := hbr.setCell (p := ⟨g, 0, none⟩) hB _
        have hz3 : (zs.set 0 49).length = 800 := by rw [List.length_set]; exact hzl
        have hd3 := hide (show Dg (zs.set 0 49) from all_dg (fun j hj => by
          rcases Nat.eq_zero_or_pos j with k | k
          · rw [k, Nt.lb_set_eq (by omega)]; omega
          · rw [Nt.lb_set_ne (by omega)]; exact HDg.out _ (lb_in (by rw [List.length_set] at hj; exact hj))))
        have hn3 := hide (show Nt.lb (zs.set 0 49) 0 ≠ 48 by rw [Nt.lb_set_eq (by omega)]; decide)
        go_upto_region 12 with fail
        generalize wr.setCell ⟨g, 0, none⟩ (.int .u8 49) = wz at *
        generalize zs.set 0 49 = zz at *
        clear hrow hbr z0 z1 g0 f0 HDg hzl
        have hrow := r3; have hbr := b3; have hzl := hz3; have HDg := hd3; have Hn := hn3
        clear r3 b3 hz3 hd3 hn3
        have hcv := row_txt (cap := 800) hrow
        rw [hzl] at hcv
        have K4 := below_trans hbr (al_one wz (.cells #[.bool ng, .string (strOfNums zz), .int .i64 P] 23))
        have CS := cell3_new wz (.bool ng) (.string (strOfNums zz)) (.int .i64 P) 23
        have hgz := hrow.lt
        have O0 := owns_keep (row_owns (base := w.heap.size) hrow hB (by rw [hzl]; unfold maxLen; omega)) (al_one wz (.cells #[.bool ng, .string (strOfNums zz), .int .i64 P] 23))
        rw [hzl] at O0
        have HBk : (wz.alloc (.cells #[.bool ng, .string (strOfNums zz), .int .i64 P] 23)).heap[wz.heap.size]? = some (.cells #[.bool ng, .string (strOfNums zz), .int .i64 P] 23 (0, 0)) := by rw [heap_alloc_new]
        go_wp2
        clear CS hcv hrow hbr
        go_loopg [11, 14, 15] 1000 (fun c ov sv iv wr => ∃ (k : Nat) (b : Bool) (ys : List Int), k ≤ 1000 ∧ k ≤ us.length ∧ c = 1000 - k ∧ iv = .int .i64 k ∧ sv = .bool b ∧ ys.length = k ∧ Dg ys ∧ (b = false → dg ys = 0) ∧ (b = true → 0 < dg ys) ∧
          wr.ownsRow w.heap.size 5 1 ov (800 + k) ((zz ++ ys).map (Value.int .u8)) ∧ wr.heap[wz.heap.size]? = some (.cells #[.bool ng, .string (strOfNums zz), .int .i64 P] 23 (0, 0)) ∧ Below w.heap.size w wr)
        case atStart => exact ⟨0, false, [], by omega, by omega, rfl, rfl, rfl, rfl, fun x hx => absurd hx (by simp), fun _ => rfl, fun h => absurd h (by decide), by simpa using O0, HBk, K4⟩
        case round =>
          obtain ⟨k, b, ys, hk, hku, hgk, rfl, rfl, hyl, hyd, hb0, hb1, hown, hblk, hbr⟩ := hrel
          have HY := hide (And.intro hyl (And.intro hyd (And.intro hb0 hb1)))
          have HBL := hide hblk
          clear hyl hyd hb0 hb1 O0 HBk K4 hblk
          by_cases go : k < us.length ∧ k < 1000
          · obtain ⟨gk1, gk2⟩ := go
            have hbs := hbr.size
            obtain ⟨bk, off, rfl, hbk, hcell⟩ := (HCb.out.below hbr) (by omega)
            have hc := hcell k gk1
            clear hcell
            obtain ⟨d, hdd⟩ : ∃ d, Nt.lb us k = d := ⟨_, rfl⟩
            have dr := HU.out _ (lb_in gk1)
            rw [hdd] at hc dr
            obtain ⟨d0, d1⟩ := dr
            have Hd := hide hdd
            clear hdd
            have q5 : (k : Int) < (us.length : Int) := by omega
            have q6 : (k : Int) < 1000 := by omega
            have wd : IntKind.u8.wrap (48 + d % 10) = 48 + d % 10 := by rw [IntKind.wrap_u8]; omega
            go_wp2_with (at_builtin; refine wpList_append_cells _ rfl _ _ 34 rfl w.heap.size 5 .u8 1 Tryz.underlying34 Tryz.infoB8 _ (800 + k) (zz ++ ys) rfl (hown.alloc _) (some ⟨wr.heap.size, 0, none⟩) 1 [48 + d % 10] rfl (one_cell _ _ _ _) (by unfold maxLen; simp; omega) (by simp; omega) (by simp; omega) ?_)
            intro v' w5 hown' hgrow
            have hlt := (Array.getElem?_eq_some_iff.1 HBL.out).1
            have hbl2 : (wr.alloc (.cells #[.int .u8 (48 + d % 10)] 5)).heap[wz.heap.size]? = some (.cells #[.bool ng, .string (strOfNums zz), .int .i64 P] 23 (0, 0)) := ((al_one wr _).block _ hlt).trans HBL.out
            have hb5 : Below w.heap.size w w5 := own_below (hbr.alloc hbs _) (by simp; omega) (hown.alloc _) hgrow
            have hbl5 : w5.heap[wz.heap.size]? = some (.cells #[.bool ng, .string (strOfNums zz), .int .i64 P] 23 (0, 0)) := (grown_block hgrow (by simp; omega) (own_other (hown.alloc _) hbl2 (by decide))).trans hbl2
            have HO := hide (And.intro hown' (And.intro hbl5 hb5))
            obtain ⟨hyl, hyd, hb0, hb1⟩ := HY.out
            have hdd : Dg (ys ++ [48 + d % 10]) := hyd.append (fun x hx => by simp at hx; subst hx; omega)
            have hv : dg (ys ++ [48 + d % 10]) = dg ys * 10 + (48 + d % 10 - 48) := dg_snoc _ _
            have yr := (dg_range hyd).1
            obtain ⟨bk2, off2, hao2, _, hcell2⟩ := (HCb.out.below hb5) (by omega)
            injection hao2 with hao2
            injection hao2 with e1 e2 _
            subst e1 e2
            have hc5 := hcell2 k gk1
            rw [Hd.out] at hc5
            have HZ := hide (And.intro hyl (And.intro hdd hv))
            clear hown' hgrow hown hcell2 hbl2 hbl5 hb5 hyl hyd hdd hv hc HBL HY
            cases b
            · have b0 := hb0 rfl
              clear hb0 hb1
              by_cases dz : d % 10 = 0
              · have dz1 : (d % 10 != 0) = false := by simp [dz]
                go_wp2
                go_roundg (1000 - (k + 1))
                case measure => omega
                case rel => exact ⟨k + 1, false, ys ++ [48 + d % 10], by omega, by omega, rfl, by simp, rfl, by simp [HZ.out.1], HZ.out.2.1, fun _ => by rw [HZ.out.2.2]; omega, fun h => absurd h (by decide), by simpa [Nat.add_assoc] using HO.out.1, HO.out.2.1, HO.out.2.2⟩
              · have dz1 : (d % 10 != 0) = true := by simp [dz]
                go_wp2
                go_roundg (1000 - (k + 1))
                case measure => omega
                case rel => exact ⟨k + 1, true, ys ++ [48 + d % 10], by omega, by omega, rfl, by simp, rfl, by simp [HZ.out.1], HZ.out.2.1, fun h => absurd h (by decide), fun _ => by rw [HZ.out.2.2]; omega, by simpa [Nat.add_assoc] using HO.out.1, HO.out.2.1, HO.out.2.2⟩
            · have b0 := hb1 rfl
              clear hb0 hb1 hc5
              go_wp2
              go_roundg (1000 - (k + 1))
              case measure => omega
              case rel => exact ⟨k + 1, true, ys ++ [48 + d % 10], by omega, by omega, rfl, by simp, rfl, by simp [HZ.out.1], HZ.out.2.1, fun h => absurd h (by decide), fun _ => by rw [HZ.out.2.2]; omega, by simpa [Nat.add_assoc] using HO.out.1, HO.out.2.1, HO.out.2.2⟩
          · have ht := reads_txt (reads_of_owns hown) (by rw [List.length_append, hzl]; omega)
            have HT := hide ht
            have hlt := (Array.getElem?_eq_some_iff.1 HBL.out).1
            have w0z : w.heap.size ≤ wz.heap.size := by omega
            have e0 := cell_of_row wr wz.heap.size 0 _ _ _ HBL.out
            have e1 := cell_of_row wr wz.heap.size 1 _ _ _ HBL.out
            have e2 := cell_of_row wr wz.heap.size 2 _ _ _ HBL.out
            have e3 := frozen_of_row wr wz.heap.size 1 _ _ HBL.out
            have CS : Cell3 wr wz.heap.size 0 (.bool ng) (.string (strOfNums zz)) (.int .i64 P) := ⟨e0, e1, e2, hlt⟩
            have CS2 := CS.below (al_one wr (.cells #[.bool ng, .string (strOfNums (zz ++ ys)), .int .i64 P] 23))
            have CL := cell3_new wr (.bool ng) (.string (strOfNums (zz ++ ys))) (.int .i64 P) 23
            have f7 := ((al_one wr (.cells #[.bool ng, .string (strOfNums (zz ++ ys)), .int .i64 P] 23)).frozen (p := ⟨wz.heap.size, 1, none⟩) hlt).trans e3
            have K6 := below_trans hbr (al_one wr (.cells #[.bool ng, .string (strOfNums (zz ++ ys)), .int .i64 P] 23))
            have hne : wr.heap.size ≠ wz.heap.size := by omega
            have HYL := hide (show (zz ++ ys).length = 800 + k by rw [List.length_append, hzl, HY.out.1])
            have HM := hide (show ∀ r1 r2, _ from fun r1 r2 => behind_math (P := P) (r1 := r1) (r2 := r2) HW.out.wide HDg.out hzl Hn.out HY.out.2.1 b HY.out.2.2.1 HY.out.2.2.2)
            have HDL := hide (HDg.out.append HY.out.2.1)
            clear e0 e1 e2 e3 CS hown HBL hbr
            by_cases c2 : (k : Int) < (us.length : Int)
            · have c3 : ¬ (k : Int) < 1000 := by have h := fun h => go ⟨by omega, h⟩; omega
              clear go
              go_upto_region 19 with fail
              clear ht
              have ht := HT.out
              go_upto_region 20 with fail
              clear ht HT
              generalize wr.alloc (.cells #[.bool ng, .string (strOfNums (zz ++ ys)), .int .i64 P] 23) = w6 at *
              generalize wr.heap.size = hL at *
              generalize wz.heap.size = hS at *
              cases b
              · have c0 := CS2.c0; have c1 := CS2.c1; have c2 := CS2.c2
                go_wp2_with fail
                refine (lread_any (N := 800) (T.below K6) HW.out HDg.out.byt rfl hzl (by omega) hP hP2).mono ?_
                rintro x w8 ⟨b8, y1, ok1, rfl, R1⟩
                clear c0 c1 c2
                replace K6 := below_trans K6 b8; replace CL := CL.below b8
                have HR1 := hide R1
                clear b8 R1
                have c0 := CL.c0; have c1 := CL.c1; have c2 := CL.c2
                go_wp2_with fail
                refine (lread_any (N := 800 + k) (T.below K6) HW.out HDL.out.byt rfl HYL.out (by omega) hP hP2).mono ?_
                rintro x w9 ⟨b9, y2, ok2, rfl, R2⟩
                clear c0 c1 c2
                replace K6 := below_trans K6 b9
                have HR2 := hide R2
                clear b9 R2
                rcases HR1.out with ⟨n1, _⟩ | ⟨n1, rfl, r1, rfl, r10, r11, dv1⟩
                · exact absurd HDg.out n1
                rcases HR2.out with ⟨n2, _⟩ | ⟨n2, rfl, r2, rfl, r20, r21, dv2⟩
                · exact absurd HDL.out n2
                have e := HM.out r1 r2 (fun _ => dv1) (fun h => absurd h (by decide)) (by rw [HY.out.1]; exact dv2)
                rw [e]
                clear HR1 HR2 n1 n2 dv1 dv2 e HM
                go_wp2
                go_ret
                exact ⟨rfl, K6⟩
              · have hj := join_one zz
                have hs8 : (strOfNums zz).size = 800 := by rw [strOfNums_size, hzl]
                have c0 := CS2.c0; have c1 := CS2.c1; have c2 := CS2.c2
                go_upto_region 22 with fail
                have K7 : Below w.heap.size w (w6.setCell ⟨hS, 1, none⟩ (.string (strOfNums (zz ++ [49])))) := K6.setCell (p := ⟨hS, 1, none⟩) w0z _
                have s0 : (w6.setCell ⟨hS, 1, none⟩ (.string (strOfNums (zz ++ [49])))).cell? ⟨hS, 0, none⟩ = some (.bool ng) := by rw [World.cell?_setCell_other _ _ _ _ (by intro e'; injection e' with _ e' _; omega)]; exact c0
                have s1 : (w6.setCell ⟨hS, 1, none⟩ (.string (strOfNums (zz ++ [49])))).cell? ⟨hS, 1, none⟩ = some (.string (strOfNums (zz ++ [49]))) := World.cell?_setCell_same _ _ _ c1
                have s2 : (w6.setCell ⟨hS, 1, none⟩ (.string (strOfNums (zz ++ [49])))).cell? ⟨hS, 2, none⟩ = some (.int .i64 P) := by rw [World.cell?_setCell_other _ _ _ _ (by intro e'; injection e' with _ e' _; omega)]; exact c2
                have CL7 : Cell3 (w6.setCell ⟨hS, 1, none⟩ (.string (strOfNums (zz ++ [49])))) hL 0 (.bool ng) (.string (strOfNums (zz ++ ys))) (.int .i64 P) :=
                  ⟨by rw [World.cell?_setCell_other _ _ _ _ (by intro e'; injection e' with e' _ _; omega)]; exact CL.c0, by rw [World.cell?_setCell_other _ _ _ _ (by intro e'; injection e' with e' _ _; omega)]; exact CL.c1, by rw [World.cell?_setCell_other _ _ _ _ (by intro e'; injection e' with e' _ _; omega)]; exact CL.c2, by simpa [World.setCell] using CL.lt⟩
                clear c0 c1 c2 hj hs8 CL CS2 f7 K6
                generalize w6.setCell ⟨hS, 1, none⟩ (.string (strOfNums (zz ++ [49]))) = w7 at *
                have hD1 := hide (HDg.out.append (show Dg [49] from dig_one (by decide)))
                go_wp2_with fail
                refine (lread_any (N := 801) (T.below K7) HW.out hD1.out.byt rfl (by rw [List.length_append, hzl]; rfl) (by omega) hP hP2).mono ?_
                rintro x w8 ⟨b8, y1, ok1, rfl, R1⟩
                clear s0 s1 s2
                replace K7 := below_trans K7 b8; replace CL7 := CL7.below b8
                have HR1 := hide R1
                clear b8 R1
                have c0 := CL7.c0; have c1 := CL7.c1; have c2 := CL7.c2
                go_wp2_with fail
                refine (lread_any (N := 800 + k) (T.below K7) HW.out HDL.out.byt rfl HYL.out (by omega) hP hP2).mono ?_
                rintro x w9 ⟨b9, y2, ok2, rfl, R2⟩
                clear c0 c1 c2
                replace K7 := below_trans K7 b9
                have HR2 := hide R2
                clear b9 R2
                rcases HR1.out with ⟨n1, _⟩ | ⟨n1, rfl, r1, rfl, r10, r11, dv1⟩
                · exact absurd hD1.out n1
                rcases HR2.out with ⟨n2, _⟩ | ⟨n2, rfl, r2, rfl, r20, r21, dv2⟩
                · exact absurd HDL.out n2
                have e := HM.out r1 r2 (fun h => absurd h (by decide)) (fun _ => dv1) (by rw [HY.out.1]; exact dv2)
                rw [e]
                clear HR1 HR2 n1 n2 dv1 dv2 e HM
                go_wp2
                go_ret
                exact ⟨rfl, K7⟩
            · clear go
              go_upto_region 19 with fail
              clear ht
              have ht := HT.out
              go_upto_region 20 with fail
              clear ht HT
              generalize wr.alloc (.cells #[.bool ng, .string (strOfNums (zz ++ ys)), .int .i64 P] 23) = w6 at *
              generalize wr.heap.size = hL at *
              generalize wz.heap.size = hS at *
              cases b
              · have c0 := CS2.c0; have c1 := CS2.c1; have c2 := CS2.c2
                go_wp2_with fail
                refine (lread_any (N := 800) (T.below K6) HW.out HDg.out.byt rfl hzl (by omega) hP hP2).mono ?_
                rintro x w8 ⟨b8, y1, ok1, rfl, R1⟩
                clear c0 c1 c2
                replace K6 := below_trans K6 b8; replace CL := CL.below b8
                have HR1 := hide R1
                clear b8 R1
                have c0 := CL.c0; have c1 := CL.c1; have c2 := CL.c2
                go_wp2_with fail
                refine (lread_any (N := 800 + k) (T.below K6) HW.out HDL.out.byt rfl HYL.out (by omega) hP hP2).mono ?_
                rintro x w9 ⟨b9, y2, ok2, rfl, R2⟩
                clear c0 c1 c2
                replace K6 := below_trans K6 b9
                have HR2 := hide R2
                clear b9 R2
                rcases HR1.out with ⟨n1, _⟩ | ⟨n1, rfl, r1, rfl, r10, r11, dv1⟩
                · exact absurd HDg.out n1
                rcases HR2.out with ⟨n2, _⟩ | ⟨n2, rfl, r2, rfl, r20, r21, dv2⟩
                · exact absurd HDL.out n2
                have e := HM.out r1 r2 (fun _ => dv1) (fun h => absurd h (by decide)) (by rw [HY.out.1]; exact dv2)
                rw [e]
                clear HR1 HR2 n1 n2 dv1 dv2 e HM
                go_wp2
                go_ret
                exact ⟨rfl, K6⟩
              · have hj := join_one zz
                have hs8 : (strOfNums zz).size = 800 := by rw [strOfNums_size, hzl]
                have c0 := CS2.c0; have c1 := CS2.c1; have c2 := CS2.c2
                go_upto_region 22 with fail
                have K7 : Below w.heap.size w (w6.setCell ⟨hS, 1, none⟩ (.string (strOfNums (zz ++ [49])))) := K6.setCell (p := ⟨hS, 1, none⟩) w0z _
                have s0 : (w6.setCell ⟨hS, 1, none⟩ (.string (strOfNums (zz ++ [49])))).cell? ⟨hS, 0, none⟩ = some (.bool ng) := by rw [World.cell?_setCell_other _ _ _ _ (by intro e'; injection e' with _ e' _; omega)]; exact c0
                have s1 : (w6.setCell ⟨hS, 1, none⟩ (.string (strOfNums (zz ++ [49])))).cell? ⟨hS, 1, none⟩ = some (.string (strOfNums (zz ++ [49]))) := World.cell?_setCell_same _ _ _ c1
                have s2 : (w6.setCell ⟨hS, 1, none⟩ (.string (strOfNums (zz ++ [49])))).cell? ⟨hS, 2, none⟩ = some (.int .i64 P) := by rw [World.cell?_setCell_other _ _ _ _ (by intro e'; injection e' with _ e' _; omega)]; exact c2
                have CL7 : Cell3 (w6.setCell ⟨hS, 1, none⟩ (.string (strOfNums (zz ++ [49])))) hL 0 (.bool ng) (.string (strOfNums (zz ++ ys))) (.int .i64 P) :=
                  ⟨by rw [World.cell?_setCell_other _ _ _ _ (by intro e'; injection e' with e' _ _; omega)]; exact CL.c0, by rw [World.cell?_setCell_other _ _ _ _ (by intro e'; injection e' with e' _ _; omega)]; exact CL.c1, by rw [World.cell?_setCell_other _ _ _ _ (by intro e'; injection e' with e' _ _; omega)]; exact CL.c2, by simpa [World.setCell] using CL.lt⟩
                clear c0 c1 c2 hj hs8 CL CS2 f7 K6
                generalize w6.setCell ⟨hS, 1, none⟩ (.string (strOfNums (zz ++ [49]))) = w7 at *
                have hD1 := hide (HDg.out.append (show Dg [49] from dig_one (by decide)))
                go_wp2_with fail
                refine (lread_any (N := 801) (T.below K7) HW.out hD1.out.byt rfl (by rw [List.length_append, hzl]; rfl) (by omega) hP hP2).mono ?_
                rintro x w8 ⟨b8, y1, ok1, rfl, R1⟩
                clear s0 s1 s2
                replace K7 := below_trans K7 b8; replace CL7 := CL7.below b8
                have HR1 := hide R1
                clear b8 R1
                have c0 := CL7.c0; have c1 := CL7.c1; have c2 := CL7.c2
                go_wp2_with fail
                refine (lread_any (N := 800 + k) (T.below K7) HW.out HDL.out.byt rfl HYL.out (by omega) hP hP2).mono ?_
                rintro x w9 ⟨b9, y2, ok2, rfl, R2⟩
                clear c0 c1 c2
                replace K7 := below_trans K7 b9
                have HR2 := hide R2
                clear b9 R2
                rcases HR1.out with ⟨n1, _⟩ | ⟨n1, rfl, r1, rfl, r10, r11, dv1⟩
                · exact absurd hD1.out n1
                rcases HR2.out with ⟨n2, _⟩ | ⟨n2, rfl, r2, rfl, r20, r21, dv2⟩
                · exact absurd HDL.out n2
                have e := HM.out r1 r2 (fun h => absurd h (by decide)) (fun _ => dv1) (by rw [HY.out.1]; exact dv2)
                rw [e]
                clear HR1 HR2 n1 n2 dv1 dv2 e HM
                go_wp2
                go_ret
                exact ⟨rfl, K7⟩
      · have z1 : (Nt.lb zs 0 == 48) = false := by simp [z0]
        have Hn := hide z0
        go_upto_region 12 with fail
        clear z0 z1 g0 f0
        generalize wr = wz at *
        generalize zs = zz at *
        have hcv := row_txt (cap := 800) hrow
        rw [hzl] at hcv
        have K4 := below_trans hbr (al_one wz (.cells #[.bool ng, .string (strOfNums zz), .int .i64 P] 23))
        have CS := cell3_new wz (.bool ng) (.string (strOfNums zz)) (.int .i64 P) 23
        have hgz := hrow.lt
        have O0 := owns_keep (row_owns (base := w.heap.size) hrow hB (by rw [hzl]; unfold maxLen; omega)) (al_one wz (.cells #[.bool ng, .string (strOfNums zz), .int .i64 P] 23))
        rw [hzl] at O0
        have HBk : (wz.alloc (.cells #[.bool ng, .string (strOfNums zz), .int .i64 P] 23)).heap[wz.heap.size]? = some (.cells #[.bool ng, .string (strOfNums zz), .int .i64 P] 23 (0, 0)) := by rw [heap_alloc_new]
        go_wp2
        clear CS hcv hrow hbr
        go_loopg [11, 14, 15] 1000 (fun c ov sv iv wr => ∃ (k : Nat) (b : Bool) (ys : List Int), k ≤ 1000 ∧ k ≤ us.length ∧ c = 1000 - k ∧ iv = .int .i64 k ∧ sv = .bool b ∧ ys.length = k ∧ Dg ys ∧ (b = false → dg ys = 0) ∧ (b = true → 0 < dg ys) ∧
          wr.ownsRow w.heap.size 5 1 ov (800 + k) ((zz ++ ys).map (Value.int .u8)) ∧ wr.heap[wz.heap.size]? = some (.cells #[.bool ng, .string (strOfNums zz), .int .i64 P] 23 (0, 0)) ∧ Below w.heap.size w wr)
        case atStart => exact ⟨0, false, [], by omega, by omega, rfl, rfl, rfl, rfl, fun x hx => absurd hx (by simp), fun _ => rfl, fun h => absurd h (by decide), by simpa using O0, HBk, K4⟩
        case round =>
          obtain ⟨k, b, ys, hk, hku, hgk, rfl, rfl, hyl, hyd, hb0, hb1, hown, hblk, hbr⟩ := hrel
          have HY := hide (And.intro hyl (And.intro hyd (And.intro hb0 hb1)))
          have HBL := hide hblk
          clear hyl hyd hb0 hb1 O0 HBk K4 hblk
          by_cases go : k < us.length ∧ k < 1000
          · obtain ⟨gk1, gk2⟩ := go
            have hbs := hbr.size
            obtain ⟨bk, off, rfl, hbk, hcell⟩ := (HCb.out.below hbr) (by omega)
            have hc := hcell k gk1
            clear hcell
            obtain ⟨d, hdd⟩ : ∃ d, Nt.lb us k = d := ⟨_, rfl⟩
            have dr := HU.out _ (lb_in gk1)
            rw [hdd] at hc dr
            obtain ⟨d0, d1⟩ := dr
            have Hd := hide hdd
            clear hdd
            have q5 : (k : Int) < (us.length : Int) := by omega
            have q6 : (k : Int) < 1000 := by omega
            have wd : IntKind.u8.wrap (48 + d % 10) = 48 + d % 10 := by rw [IntKind.wrap_u8]; omega
            go_wp2_with (at_builtin; refine wpList_append_cells _ rfl _ _ 34 rfl w.heap.size 5 .u8 1 Tryz.underlying34 Tryz.infoB8 _ (800 + k) (zz ++ ys) rfl (hown.alloc _) (some ⟨wr.heap.size, 0, none⟩) 1 [48 + d % 10] rfl (one_cell _ _ _ _) (by unfold maxLen; simp; omega) (by simp; omega) (by simp; omega) ?_)
            intro v' w5 hown' hgrow
            have hlt := (Array.getElem?_eq_some_iff.1 HBL.out).1
            have hbl2 : (wr.alloc (.cells #[.int .u8 (48 + d % 10)] 5)).heap[wz.heap.size]? = some (.cells #[.bool ng, .string (strOfNums zz), .int .i64 P] 23 (0, 0)) := ((al_one wr _).block _ hlt).trans HBL.out
            have hb5 : Below w.heap.size w w5 := own_below (hbr.alloc hbs _) (by simp; omega) (hown.alloc _) hgrow
            have hbl5 : w5.heap[wz.heap.size]? = some (.cells #[.bool ng, .string (strOfNums zz), .int .i64 P] 23 (0, 0)) := (grown_block hgrow (by simp; omega) (own_other (hown.alloc _) hbl2 (by decide))).trans hbl2
            have HO := hide (And.intro hown' (And.intro hbl5 hb5))
            obtain ⟨hyl, hyd, hb0, hb1⟩ := HY.out
            have hdd : Dg (ys ++ [48 + d % 10]) := hyd.append (fun x hx => by simp at hx; subst hx; omega)
            have hv : dg (ys ++ [48 + d % 10]) = dg ys * 10 + (48 + d % 10 - 48) := dg_snoc _ _
            have yr := (dg_range hyd).1
            obtain ⟨bk2, off2, hao2, _, hcell2⟩ := (HCb.out.below hb5) (by omega)
            injection hao2 with hao2
            injection hao2 with e1 e2 _
            subst e1 e2
            have hc5 := hcell2 k gk1
            rw [Hd.out] at hc5
            have HZ := hide (And.intro hyl (And.intro hdd hv))
            clear hown' hgrow hown hcell2 hbl2 hbl5 hb5 hyl hyd hdd hv hc HBL HY
            cases b
            · have b0 := hb0 rfl
              clear hb0 hb1
              by_cases dz : d % 10 = 0
              · have dz1 : (d % 10 != 0) = false := by simp [dz]
                go_wp2
                go_roundg (1000 - (k + 1))
                case measure => omega
                case rel => exact ⟨k + 1, false, ys ++ [48 + d % 10], by omega, by omega, rfl, by simp, rfl, by simp [HZ.out.1], HZ.out.2.1, fun _ => by rw [HZ.out.2.2]; omega, fun h => absurd h (by decide), by simpa [Nat.add_assoc] using HO.out.1, HO.out.2.1, HO.out.2.2⟩
              · have dz1 : (d % 10 != 0) = true := by simp [dz]
                go_wp2
                go_roundg (1000 - (k + 1))
                case measure => omega
                case rel => exact ⟨k + 1, true, ys ++ [48 + d % 10], by omega, by omega, rfl, by simp, rfl, by simp [HZ.out.1], HZ.out.2.1, fun h => absurd h (by decide), fun _ => by rw [HZ.out.2.2]; omega, by simpa [Nat.add_assoc] using HO.out.1, HO.out.2.1, HO.out.2.2⟩
            · have b0 := hb1 rfl
              clear hb0 hb1 hc5
              go_wp2
              go_roundg (1000 - (k + 1))
              case measure => omega
              case rel => exact ⟨k + 1, true, ys ++ [48 + d % 10], by omega, by omega, rfl, by simp, rfl, by simp [HZ.out.1], HZ.out.2.1, fun h => absurd h (by decide), fun _ => by rw [HZ.out.2.2]; omega, by simpa [Nat.add_assoc] using HO.out.1, HO.out.2.1, HO.out.2.2⟩
          · have ht := reads_txt (reads_of_owns hown) (by rw [List.length_append, hzl]; omega)
            have HT := hide ht
            have hlt := (Array.getElem?_eq_some_iff.1 HBL.out).1
            have w0z : w.heap.size ≤ wz.heap.size := by omega
            have e0 := cell_of_row wr wz.heap.size 0 _ _ _ HBL.out
            have e1 := cell_of_row wr wz.heap.size 1 _ _ _ HBL.out
            have e2 := cell_of_row wr wz.heap.size 2 _ _ _ HBL.out
            have e3 := frozen_of_row wr wz.heap.size 1 _ _ HBL.out
            have CS : Cell3 wr wz.heap.size 0 (.bool ng) (.string (strOfNums zz)) (.int .i64 P) := ⟨e0, e1, e2, hlt⟩
            have CS2 := CS.below (al_one wr (.cells #[.bool ng, .string (strOfNums (zz ++ ys)), .int .i64 P] 23))
            have CL := cell3_new wr (.bool ng) (.string (strOfNums (zz ++ ys))) (.int .i64 P) 23
            have f7 := ((al_one wr (.cells #[.bool ng, .string (strOfNums (zz ++ ys)), .int .i64 P] 23)).frozen (p := ⟨wz.heap.size, 1, none⟩) hlt).trans e3
            have K6 := below_trans hbr (al_one wr (.cells #[.bool ng, .string (strOfNums (zz ++ ys)), .int .i64 P] 23))
            have hne : wr.heap.size ≠ wz.heap.size := by omega
            have HYL := hide (show (zz ++ ys).length = 800 + k by rw [List.length_append, hzl, HY.out.1])
            have HM := hide (show ∀ r1 r2, _ from fun r1 r2 => behind_math (P := P) (r1 := r1) (r2 := r2) HW.out.wide HDg.out hzl Hn.out HY.out.2.1 b HY.out.2.2.1 HY.out.2.2.2)
            have HDL := hide (HDg.out.append HY.out.2.1)
            clear e0 e1 e2 e3 CS hown HBL hbr
            by_cases c2 : (k : Int) < (us.length : Int)
            · have c3 : ¬ (k : Int) < 1000 := by have h := fun h => go ⟨by omega, h⟩; omega
              clear go
              go_upto_region 19 with fail
              clear ht
              have ht := HT.out
              go_upto_region 20 with fail
              clear ht HT
              generalize wr.alloc (.cells #[.bool ng, .string (strOfNums (zz ++ ys)), .int .i64 P] 23) = w6 at *
              generalize wr.heap.size = hL at *
              generalize wz.heap.size = hS at *
              cases b
              · have c0 := CS2.c0; have c1 := CS2.c1; have c2 := CS2.c2
                go_wp2_with fail
                refine (lread_any (N := 800) (T.below K6) HW.out HDg.out.byt rfl hzl (by omega) hP hP2).mono ?_
                rintro x w8 ⟨b8, y1, ok1, rfl, R1⟩
                clear c0 c1 c2
                replace K6 := below_trans K6 b8; replace CL := CL.below b8
                have HR1 := hide R1
                clear b8 R1
                have c0 := CL.c0; have c1 := CL.c1; have c2 := CL.c2
                go_wp2_with fail
                refine (lread_any (N := 800 + k) (T.below K6) HW.out HDL.out.byt rfl HYL.out (by omega) hP hP2).mono ?_
                rintro x w9 ⟨b9, y2, ok2, rfl, R2⟩
                clear c0 c1 c2
                replace K6 := below_trans K6 b9
                have HR2 := hide R2
                clear b9 R2
                rcases HR1.out with ⟨n1, _⟩ | ⟨n1, rfl, r1, rfl, r10, r11, dv1⟩
                · exact absurd HDg.out n1
                rcases HR2.out with ⟨n2, _⟩ | ⟨n2, rfl, r2, rfl, r20, r21, dv2⟩
                · exact absurd HDL.out n2
                have e := HM.out r1 r2 (fun _ => dv1) (fun h => absurd h (by decide)) (by rw [HY.out.1]; exact dv2)
                rw [e]
                clear HR1 HR2 n1 n2 dv1 dv2 e HM
                go_wp2
                go_ret
                exact ⟨rfl, K6⟩
              · have hj := join_one zz
                have hs8 : (strOfNums zz).size = 800 := by rw [strOfNums_size, hzl]
                have c0 := CS2.c0; have c1 := CS2.c1; have c2 := CS2.c2
                go_upto_region 22 with fail
                have K7 : Below w.heap.size w (w6.setCell ⟨hS, 1, none⟩ (.string (strOfNums (zz ++ [49])))) := K6.setCell (p := ⟨hS, 1, none⟩) w0z _
                have s0 : (w6.setCell ⟨hS, 1, none⟩ (.string (strOfNums (zz ++ [49])))).cell? ⟨hS, 0, none⟩ = some (.bool ng) := by rw [World.cell?_setCell_other _ _ _ _ (by intro e'; injection e' with _ e' _; omega)]; exact c0
                have s1 : (w6.setCell ⟨hS, 1, none⟩ (.string (strOfNums (zz ++ [49])))).cell? ⟨hS, 1, none⟩ = some (.string (strOfNums (zz ++ [49]))) := World.cell?_setCell_same _ _ _ c1
                have s2 : (w6.setCell ⟨hS, 1, none⟩ (.string (strOfNums (zz ++ [49])))).cell? ⟨hS, 2, none⟩ = some (.int .i64 P) := by rw [World.cell?_setCell_other _ _ _ _ (by intro e'; injection e' with _ e' _; omega)]; exact c2
                have CL7 : Cell3 (w6.setCell ⟨hS, 1, none⟩ (.string (strOfNums (zz ++ [49])))) hL 0 (.bool ng) (.string (strOfNums (zz ++ ys))) (.int .i64 P) :=
                  ⟨by rw [World.cell?_setCell_other _ _ _ _ (by intro e'; injection e' with e' _ _; omega)]; exact CL.c0, by rw [World.cell?_setCell_other _ _ _ _ (by intro e'; injection e' with e' _ _; omega)]; exact CL.c1, by rw [World.cell?_setCell_other _ _ _ _ (by intro e'; injection e' with e' _ _; omega)]; exact CL.c2, by simpa [World.setCell] using CL.lt⟩
                clear c0 c1 c2 hj hs8 CL CS2 f7 K6
                generalize w6.setCell ⟨hS, 1, none⟩ (.string (strOfNums (zz ++ [49]))) = w7 at *
                have hD1 := hide (HDg.out.append (show Dg [49] from dig_one (by decide)))
                go_wp2_with fail
                refine (lread_any (N := 801) (T.below K7) HW.out hD1.out.byt rfl (by rw [List.length_append, hzl]; rfl) (by omega) hP hP2).mono ?_
                rintro x w8 ⟨b8, y1, ok1, rfl, R1⟩
                clear s0 s1 s2
                replace K7 := below_trans K7 b8; replace CL7 := CL7.below b8
                have HR1 := hide R1
                clear b8 R1
                have c0 := CL7.c0; have c1 := CL7.c1; have c2 := CL7.c2
                go_wp2_with fail
                refine (lread_any (N := 800 + k) (T.below K7) HW.out HDL.out.byt rfl HYL.out (by omega) hP hP2).mono ?_
                rintro x w9 ⟨b9, y2, ok2, rfl, R2⟩
                clear c0 c1 c2
                replace K7 := below_trans K7 b9
                have HR2 := hide R2
                clear b9 R2
                rcases HR1.out with ⟨n1, _⟩ | ⟨n1, rfl, r1, rfl, r10, r11, dv1⟩
                · exact absurd hD1.out n1
                rcases HR2.out with ⟨n2, _⟩ | ⟨n2, rfl, r2, rfl, r20, r21, dv2⟩
                · exact absurd HDL.out n2
                have e := HM.out r1 r2 (fun h => absurd h (by decide)) (fun _ => dv1) (by rw [HY.out.1]; exact dv2)
                rw [e]
                clear HR1 HR2 n1 n2 dv1 dv2 e HM
                go_wp2
                go_ret
                exact ⟨rfl, K7⟩
            · clear go
              go_upto_region 19 with fail
              clear ht
              have ht := HT.out
              go_upto_region 20 with fail
              clear ht HT
              generalize wr.alloc (.cells #[.bool ng, .string (strOfNums (zz ++ ys)), .int .i64 P] 23) = w6 at *
              generalize wr.heap.size = hL at *
              generalize wz.heap.size = hS at *
              cases b
              · have c0 := CS2.c0; have c1 := CS2.c1; have c2 := CS2.c2
                go_wp2_with fail
                refine (lread_any (N := 800) (T.below K6) HW.out HDg.out.byt rfl hzl (by omega) hP hP2).mono ?_
                rintro x w8 ⟨b8, y1, ok1, rfl, R1⟩
                clear c0 c1 c2
                replace K6 := below_trans K6 b8; replace CL := CL.below b8
                have HR1 := hide R1
                clear b8 R1
                have c0 := CL.c0; have c1 := CL.c1; have c2 := CL.c2
                go_wp2_with fail
                refine (lread_any (N := 800 + k) (T.below K6) HW.out HDL.out.byt rfl HYL.out (by omega) hP hP2).mono ?_
                rintro x w9 ⟨b9, y2, ok2, rfl, R2⟩
                clear c0 c1 c2
                replace K6 := below_trans K6 b9
                have HR2 := hide R2
                clear b9 R2
                rcases HR1.out with ⟨n1, _⟩ | ⟨n1, rfl, r1, rfl, r10, r11, dv1⟩
                · exact absurd HDg.out n1
                rcases HR2.out with ⟨n2, _⟩ | ⟨n2, rfl, r2, rfl, r20, r21, dv2⟩
                · exact absurd HDL.out n2
                have e := HM.out r1 r2 (fun _ => dv1) (fun h => absurd h (by decide)) (by rw [HY.out.1]; exact dv2)
                rw [e]
                clear HR1 HR2 n1 n2 dv1 dv2 e HM
                go_wp2
                go_ret
                exact ⟨rfl, K6⟩
              · have hj := join_one zz
                have hs8 : (strOfNums zz).size = 800 := by rw [strOfNums_size, hzl]
                have c0 := CS2.c0; have c1 := CS2.c1; have c2 := CS2.c2
                go_upto_region 22 with fail
                have K7 : Below w.heap.size w (w6.setCell ⟨hS, 1, none⟩ (.string (strOfNums (zz ++ [49])))) := K6.setCell (p := ⟨hS, 1, none⟩) w0z _
                have s0 : (w6.setCell ⟨hS, 1, none⟩ (.string (strOfNums (zz ++ [49])))).cell? ⟨hS, 0, none⟩ = some (.bool ng) := by rw [World.cell?_setCell_other _ _ _ _ (by intro e'; injection e' with _ e' _; omega)]; exact c0
                have s1 : (w6.setCell ⟨hS, 1, none⟩ (.string (strOfNums (zz ++ [49])))).cell? ⟨hS, 1, none⟩ = some (.string (strOfNums (zz ++ [49]))) := World.cell?_setCell_same _ _ _ c1
                have s2 : (w6.setCell ⟨hS, 1, none⟩ (.string (strOfNums (zz ++ [49])))).cell? ⟨hS, 2, none⟩ = some (.int .i64 P) := by rw [World.cell?_setCell_other _ _ _ _ (by intro e'; injection e' with _ e' _; omega)]; exact c2
                have CL7 : Cell3 (w6.setCell ⟨hS, 1, none⟩ (.string (strOfNums (zz ++ [49])))) hL 0 (.bool ng) (.string (strOfNums (zz ++ ys))) (.int .i64 P) :=
                  ⟨by rw [World.cell?_setCell_other _ _ _ _ (by intro e'; injection e' with e' _ _; omega)]; exact CL.c0, by rw [World.cell?_setCell_other _ _ _ _ (by intro e'; injection e' with e' _ _; omega)]; exact CL.c1, by rw [World.cell?_setCell_other _ _ _ _ (by intro e'; injection e' with e' _ _; omega)]; exact CL.c2, by simpa [World.setCell] using CL.lt⟩
                clear c0 c1 c2 hj hs8 CL CS2 f7 K6
                generalize w6.setCell ⟨hS, 1, none⟩ (.string (strOfNums (zz ++ [49]))) = w7 at *
                have hD1 := hide (HDg.out.append (show Dg [49] from dig_one (by decide)))
                go_wp2_with fail
                refine (lread_any (N := 801) (T.below K7) HW.out hD1.out.byt rfl (by rw [List.length_append, hzl]; rfl) (by omega) hP hP2).mono ?_
                rintro x w8 ⟨b8, y1, ok1, rfl, R1⟩
                clear s0 s1 s2
                replace K7 := below_trans K7 b8; replace CL7 := CL7.below b8
                have HR1 := hide R1
                clear b8 R1
                have c0 := CL7.c0; have c1 := CL7.c1; have c2 := CL7.c2
                go_wp2_with fail
                refine (lread_any (N := 800 + k) (T.below K7) HW.out HDL.out.byt rfl HYL.out (by omega) hP hP2).mono ?_
                rintro x w9 ⟨b9, y2, ok2, rfl, R2⟩
                clear c0 c1 c2
                replace K7 := below_trans K7 b9
                have HR2 := hide R2
                clear b9 R2
                rcases HR1.out with ⟨n1, _⟩ | ⟨n1, rfl, r1, rfl, r10, r11, dv1⟩
                · exact absurd hD1.out n1
                rcases HR2.out with ⟨n2, _⟩ | ⟨n2, rfl, r2, rfl, r20, r21, dv2⟩
                · exact absurd HDL.out n2
                have e := HM.out r1 r2 (fun h => absurd h (by decide)) (fun _ => dv1) (by rw [HY.out.1]; exact dv2)
                rw [e]
                clear HR1 HR2 n1 n2 dv1 dv2 e HM
                go_wp2
                go_ret
                exact ⟨rfl, K7⟩

end Go.Proofs.YtigehipclkoecabGreatDoor
