import Derived.Test.YticmlelalbaalaaGreatDoorB16
import Derived.Test.YticmlelalbaalaaGreatDoorB04
namespace Go.Proofs.YticmlelalbaalaaGreatDoor
open Go.RowKit
set_option linter.unusedVariables false
def CmpOf (x : Va) : Prop := ∀ (w : World) (v v' : Value) (y : Va), Lays w → VaRd w v x → VaRd w v' y → vpts y ≤ 1048576 →
  Calls Tryz.prog 19 #[v, v'] w fun e w' => e = .returned (.int .i64 (vcmp x y)) ∧ Below w.heap.size w w'
theorem kcmp_step : ∀ {xs ys : List Va} {i : Nat} (hi : i < xs.length) (hj : i < ys.length), kcmp (xs.take i) (ys.take i) = 0 → vcmp xs[i] ys[i] = 0 → kcmp (xs.take (i + 1)) (ys.take (i + 1)) = 0
  | [], ys, i, hi, hj, h, h' => by simp at hi
  | x :: xs, [], i, hi, hj, h, h' => by simp at hj
  | x :: xs, y :: ys, 0, hi, hj, h, h' => by
    simp only [List.getElem_cons_zero] at h'
    simp [kcmp, h', lx]
  | x :: xs, y :: ys, i + 1, hi, hj, h, h' => by
    simp only [List.take_succ_cons, kcmp, lx_zero, List.getElem_cons_succ] at h h' ⊢
    exact ⟨h.1, kcmp_step (by simpa using hi) (by simpa using hj) h.2 h'⟩
theorem kcmp_at : ∀ {xs ys : List Va} {i : Nat} (hi : i < xs.length) (hj : i < ys.length), kcmp (xs.take i) (ys.take i) = 0 → vcmp xs[i] ys[i] ≠ 0 → kcmp xs ys = vcmp xs[i] ys[i]
  | [], ys, i, hi, hj, h, h' => by simp at hi
  | x :: xs, [], i, hi, hj, h, h' => by simp at hj
  | x :: xs, y :: ys, 0, hi, hj, h, h' => by
    simp only [List.getElem_cons_zero] at h' ⊢
    rw [kcmp, lx, if_neg h']
  | x :: xs, y :: ys, i + 1, hi, hj, h, h' => by
    simp only [List.take_succ_cons, kcmp, lx_zero, List.getElem_cons_succ] at h h' ⊢
    rw [lx, if_pos h.1]
    exact kcmp_at (by simpa using hi) (by simpa using hj) h.2 h'
theorem kcmp_end : ∀ {xs ys : List Va}, kcmp (xs.take ys.length) (ys.take xs.length) = 0 → kcmp xs ys = if xs.length < ys.length then -1 else if ys.length < xs.length then 1 else 0
  | [], [], _ => by simp [kcmp]
  | [], y :: ys, _ => by simp [kcmp]
  | x :: xs, [], _ => by simp [kcmp]
  | x :: xs, y :: ys, h => by
    simp only [List.length_cons, List.take_succ_cons, kcmp, lx_zero] at h
    rw [kcmp, lx, if_pos h.1, kcmp_end h.2]
    simp only [List.length_cons, Nat.add_lt_add_iff_right]
theorem kpts_mem {x : Va} {xs : List Va} (h : x ∈ xs) : vpts x ≤ kpts xs := by
  induction xs with
  | nil => cases h
  | cons y l ih =>
    rw [kpts]
    rcases List.mem_cons.1 h with rfl | h
    · omega
    · have := ih h; omega
theorem kpts_len (xs : List Va) : xs.length ≤ kpts xs := by
  induction xs with
  | nil => simp [kpts]
  | cons y l ih => rw [kpts, List.length_cons, vpts_eq]; omega
def Box8 (w : World) (b : Nat) (a0 a1 a2 a3 a4 a5 a6 a7 : Value) : Prop :=
  w.cell? ⟨b, 0, none⟩ = some a0 ∧ w.cell? ⟨b, 1, none⟩ = some a1 ∧ w.cell? ⟨b, 2, none⟩ = some a2 ∧ w.cell? ⟨b, 3, none⟩ = some a3 ∧ w.cell? ⟨b, 4, none⟩ = some a4 ∧ w.cell? ⟨b, 5, none⟩ = some a5 ∧ w.cell? ⟨b, 6, none⟩ = some a6 ∧ w.cell? ⟨b, 7, none⟩ = some a7
theorem box8_new (w : World) (a0 a1 a2 a3 a4 a5 a6 a7 : Value) (t : Nat) : Box8 (w.alloc (.cells #[a0, a1, a2, a3, a4, a5, a6, a7] t)) w.heap.size a0 a1 a2 a3 a4 a5 a6 a7 := by
  refine ⟨?_, ?_, ?_, ?_, ?_, ?_, ?_, ?_⟩ <;> (rw [World.cell?_alloc_at _ _ _ _ rfl]; rfl)
theorem Box8.below {w w' : World} {b : Nat} {a0 a1 a2 a3 a4 a5 a6 a7 : Value} (h : Box8 w b a0 a1 a2 a3 a4 a5 a6 a7) (hb : Below w.heap.size w w') (hl : b < w.heap.size) : Box8 w' b a0 a1 a2 a3 a4 a5 a6 a7 := by
  obtain ⟨h0, h1, h2, h3, h4, h5, h6, h7⟩ := h
  exact ⟨(hb.cell (p := ⟨b, _, none⟩) hl).trans h0, (hb.cell (p := ⟨b, _, none⟩) hl).trans h1, (hb.cell (p := ⟨b, _, none⟩) hl).trans h2, (hb.cell (p := ⟨b, _, none⟩) hl).trans h3, (hb.cell (p := ⟨b, _, none⟩) hl).trans h4, (hb.cell (p := ⟨b, _, none⟩) hl).trans h5, (hb.cell (p := ⟨b, _, none⟩) hl).trans h6, (hb.cell (p := ⟨b, _, none⟩) hl).trans h7⟩
set_option maxHeartbeats 16000000 in
set_option maxRecDepth 100000 in
theorem vfunc_any {w : World} {va vb : Value} {xs ys : List Va} (L : Lays w) (ha : VaSl w va xs) (hb : VaSl w vb ys) (hc : ∀ x ∈ xs, CmpOf x) (hp : kpts xs ≤ 1048576) (hq : kpts ys ≤ 1048576) :
    Calls Tryz.prog 56 #[va, vb, .func (.func 19) #[] #[]] w fun e w' => e = .returned (.int .i64 (kcmp xs ys)) ∧ Below w.heap.size w w' := by
  have HA := hide ha
  have HB := hide hb
  have HC := hide hc
  have HL := hide L
  obtain ⟨ao, ca, rfl, hac, ham⟩ := ha.len
  obtain ⟨bo, cb, rfl, hbc, hbm⟩ := hb.len
  have hx20 : xs.length ≤ 1048576 := Nat.le_trans (kpts_len xs) hp
  have hy20 : ys.length ≤ 1048576 := Nat.le_trans (kpts_len ys) hq
  have HP := hide (And.intro hp hq)
  clear ha hb hc L hp hq
  go_enter Tryz.func56, Tryz.ntmps56
  go_wp2
  go_loopw [13] (fun i wr => ∃ j : Nat, i = .int .i64 j ∧ j ≤ xs.length ∧ j ≤ ys.length ∧ Hid (kcmp (xs.take j) (ys.take j) = 0) ∧ Hid (Below w.heap.size w wr)) (fun i _ => xs.length - (intOf i).toNat)
  case atStart => exact ⟨0, rfl, by omega, by omega, hide (by simp [kcmp]), hide (Below.refl _ _)⟩
  case round =>
    obtain ⟨j, rfl, hj, hj', HK, HW⟩ := hrel
    by_cases hjx : j < xs.length
    · have q1 : (j : Int) < (xs.length : Int) := by omega
      obtain ⟨b1, o1, vm1, vk1, rfl, hb1, cc1, hm1, hk1, hw1⟩ := VaSl.at (HA.out.far HW.out) rfl hjx
      obtain ⟨x, hxx⟩ : ∃ x, xs[j] = x := ⟨_, rfl⟩
      rw [hxx] at cc1 hm1 hk1 hw1
      obtain ⟨z0, z1, z2, z3, z4, z5, z6, z7⟩ := cc1
      have HX := hide hxx
      obtain ⟨mo1, mc1, rfl, -, -⟩ : ∃ ao cap, vm1 = .slice ao x.mag.length cap ∧ True ∧ True := by obtain ⟨ao, cap, h, _⟩ := hm1; exact ⟨ao, cap, h, trivial, trivial⟩
      obtain ⟨ko1, kc1, rfl, -, -⟩ := hk1.len
      obtain ⟨n1, hn1⟩ : ∃ n, x.mag.length = n := ⟨_, rfl⟩
      obtain ⟨l1, hl1⟩ : ∃ n, x.kids.length = n := ⟨_, rfl⟩
      rw [hn1] at z3 hm1
      rw [hl1] at z7 hk1
      have RX : VaRd wr (vaV x (.slice mo1 n1 mc1) (.slice ko1 l1 kc1)) x := ⟨⟨_, _, rfl, hm1, hk1⟩, hw1⟩
      unfold vaV at RX
      have HRX := hide RX
      have HXM := hide (show x ∈ xs by rw [← HX.out]; exact List.getElem_mem hjx)
      clear hxx hm1 hk1 hw1 hn1 hl1 RX
      obtain ⟨tx, htx⟩ : ∃ t, strOfNums x.text = t := ⟨_, rfl⟩
      rw [htx] at z6 HRX
      clear htx
      by_cases hjy : j < ys.length
      · have q2 : ¬ (ys.length : Int) ≤ (j : Int) := by omega
        obtain ⟨b2, o2, vm2, vk2, rfl, hb2, cc2, hm2, hk2, hw2⟩ := VaSl.at (HB.out.far HW.out) rfl hjy
        obtain ⟨y, hyy⟩ : ∃ y, ys[j] = y := ⟨_, rfl⟩
        rw [hyy] at cc2 hm2 hk2 hw2
        have HY := hide hyy
        obtain ⟨mo2, mc2, rfl, -, -⟩ : ∃ ao cap, vm2 = .slice ao y.mag.length cap ∧ True ∧ True := by obtain ⟨ao, cap, h, _⟩ := hm2; exact ⟨ao, cap, h, trivial, trivial⟩
        obtain ⟨ko2, kc2, rfl, -, -⟩ := hk2.len
        obtain ⟨n2, hn2⟩ : ∃ n, y.mag.length = n := ⟨_, rfl⟩
        obtain ⟨l2, hl2⟩ : ∃ n, y.kids.length = n := ⟨_, rfl⟩
        obtain ⟨y0, y1, y2, y3, y4, y5, y6, y7⟩ := cc2
        rw [hn2] at y3 hm2
        rw [hl2] at y7 hk2
        have RY : VaRd wr (vaV y (.slice mo2 n2 mc2) (.slice ko2 l2 kc2)) y := ⟨⟨_, _, rfl, hm2, hk2⟩, hw2⟩
        unfold vaV at RY
        have HRY := hide RY
        have HYM := hide (show y ∈ ys by rw [← HY.out]; exact List.getElem_mem hjy)
        clear hyy hm2 hk2 hw2 hn2 hl2 RY
        obtain ⟨ty, hty⟩ : ∃ t, strOfNums y.text = t := ⟨_, rfl⟩
        rw [hty] at y6 HRY
        clear hty
        have HY2 := hide (And.intro y0 (And.intro y1 (And.intro y2 (And.intro y3 (And.intro y4 (And.intro y5 (And.intro y6 y7)))))))
        clear y0 y1 y2 y3 y4 y5 y6 y7
        go_upto_region 6 with fail
        obtain ⟨W1, hW1⟩ : ∃ W1, wr.alloc (.cells #[.int .i8 x.kind, .int .u64 x.n, .bool x.neg, .slice mo1 n1 mc1, .int .u64 x.bits, .int .i8 x.ext, .string tx, .slice ko1 l1 kc1] 31) = W1 := ⟨_, rfl⟩
        have K1 : Hid (Below wr.heap.size wr W1) := hide (by rw [← hW1]; exact bel_new _ _)
        have BX : Hid (Box8 W1 wr.heap.size (.int .i8 x.kind) (.int .u64 x.n) (.bool x.neg) (.slice mo1 n1 mc1) (.int .u64 x.bits) (.int .i8 x.ext) (.string tx) (.slice ko1 l1 kc1)) := hide (by rw [← hW1]; exact box8_new _ _ _ _ _ _ _ _ _ _)
        have s1 : wr.heap.size < W1.heap.size := by rw [← hW1]; simp
        rw [hW1]
        clear hW1 z0 z1 z2 z3 z4 z5 z6 z7
        obtain ⟨y0, y1, y2, y3, y4, y5, y6, y7⟩ := HY2.out
        replace y0 := (K1.out.cell (p := ⟨b2, _, none⟩) hb2).trans y0
        replace y1 := (K1.out.cell (p := ⟨b2, _, none⟩) hb2).trans y1
        replace y2 := (K1.out.cell (p := ⟨b2, _, none⟩) hb2).trans y2
        replace y3 := (K1.out.cell (p := ⟨b2, _, none⟩) hb2).trans y3
        replace y4 := (K1.out.cell (p := ⟨b2, _, none⟩) hb2).trans y4
        replace y5 := (K1.out.cell (p := ⟨b2, _, none⟩) hb2).trans y5
        replace y6 := (K1.out.cell (p := ⟨b2, _, none⟩) hb2).trans y6
        replace y7 := (K1.out.cell (p := ⟨b2, _, none⟩) hb2).trans y7
        go_upto_region 7 with fail
        obtain ⟨W2, hW2⟩ : ∃ W2, W1.alloc (.cells #[.int .i8 y.kind, .int .u64 y.n, .bool y.neg, .slice mo2 n2 mc2, .int .u64 y.bits, .int .i8 y.ext, .string ty, .slice ko2 l2 kc2] 31) = W2 := ⟨_, rfl⟩
        have K2 : Hid (Below W1.heap.size W1 W2) := hide (by rw [← hW2]; exact bel_new _ _)
        have BY : Hid (Box8 W2 W1.heap.size (.int .i8 y.kind) (.int .u64 y.n) (.bool y.neg) (.slice mo2 n2 mc2) (.int .u64 y.bits) (.int .i8 y.ext) (.string ty) (.slice ko2 l2 kc2)) := hide (by rw [← hW2]; exact box8_new _ _ _ _ _ _ _ _ _ _)
        have s2 : W1.heap.size < W2.heap.size := by rw [← hW2]; simp
        rw [hW2]
        clear hW2 y0 y1 y2 y3 y4 y5 y6 y7 HY2
        have K12 : Hid (Below wr.heap.size wr W2) := hide (K1.out.trans (K2.out.mono K1.out.size))
        have CF : Hid (∀ U, Below W2.heap.size W2 U → U.cell? ⟨wr.heap.size, 0, none⟩ = some (.int .i8 x.kind) ∧ U.cell? ⟨wr.heap.size, 1, none⟩ = some (.int .u64 x.n) ∧ U.cell? ⟨wr.heap.size, 2, none⟩ = some (.bool x.neg) ∧ U.cell? ⟨wr.heap.size, 3, none⟩ = some (.slice mo1 n1 mc1) ∧ U.cell? ⟨wr.heap.size, 4, none⟩ = some (.int .u64 x.bits) ∧ U.cell? ⟨wr.heap.size, 5, none⟩ = some (.int .i8 x.ext) ∧ U.cell? ⟨wr.heap.size, 6, none⟩ = some (.string tx) ∧ U.cell? ⟨wr.heap.size, 7, none⟩ = some (.slice ko1 l1 kc1) ∧ U.cell? ⟨W1.heap.size, 0, none⟩ = some (.int .i8 y.kind) ∧ U.cell? ⟨W1.heap.size, 1, none⟩ = some (.int .u64 y.n) ∧ U.cell? ⟨W1.heap.size, 2, none⟩ = some (.bool y.neg) ∧ U.cell? ⟨W1.heap.size, 3, none⟩ = some (.slice mo2 n2 mc2) ∧ U.cell? ⟨W1.heap.size, 4, none⟩ = some (.int .u64 y.bits) ∧ U.cell? ⟨W1.heap.size, 5, none⟩ = some (.int .i8 y.ext) ∧ U.cell? ⟨W1.heap.size, 6, none⟩ = some (.string ty) ∧ U.cell? ⟨W1.heap.size, 7, none⟩ = some (.slice ko2 l2 kc2)) := hide (fun U k => by
          obtain ⟨h0, h1, h2, h3, h4, h5, h6, h7⟩ := BX.out.below (K2.out.trans (k.mono K2.out.size)) s1
          obtain ⟨g0, g1, g2, g3, g4, g5, g6, g7⟩ := BY.out.below k s2
          exact ⟨h0, h1, h2, h3, h4, h5, h6, h7, g0, g1, g2, g3, g4, g5, g6, g7⟩)
        have HCw : Hid (∀ U, Below W2.heap.size W2 U → Calls Tryz.prog 19 #[.agg #[.int .i8 x.kind, .int .u64 x.n, .bool x.neg, .slice mo1 n1 mc1, .int .u64 x.bits, .int .i8 x.ext, .string tx, .slice ko1 l1 kc1], .agg #[.int .i8 y.kind, .int .u64 y.n, .bool y.neg, .slice mo2 n2 mc2, .int .u64 y.bits, .int .i8 y.ext, .string ty, .slice ko2 l2 kc2]] U fun e w' => e = .returned (.int .i64 (vcmp x y)) ∧ Below U.heap.size U w') := hide (fun U k =>
          HC.out x HXM.out U _ _ y (HL.out.below (HW.out.trans ((K12.out.trans (k.mono K12.out.size)).mono HW.out.size))) (HRX.out.far (K12.out.trans (k.mono K12.out.size))) (HRY.out.far (K12.out.trans (k.mono K12.out.size))) (Nat.le_trans (kpts_mem HYM.out) HP.out.2))
        obtain ⟨fv, hfv⟩ : ∃ z, vcmp x y = z := ⟨_, rfl⟩
        rw [hfv] at HCw
        have HFV := hide hfv
        clear hfv HRX HRY K2 BX BY
        by_cases hf : fv = 0
        · subst hf
          obtain ⟨h0, h1, h2, h3, h4, h5, h6, h7, g0, g1, g2, g3, g4, g5, g6, g7⟩ := CF.out _ (Below.refl _ _)
          have HC2 := HCw.out _ (Below.refl _ _)
          clear CF HCw
          go_wp2_with (refine HC2.mono ?_; rintro e W3 ⟨rfl, K⟩; clear HC2 h0 h1 h2 h3 h4 h5 h6 h7 g0 g1 g2 g3 g4 g5 g6 g7; have HB8 := hide (HW.out.trans ((K12.out.trans (K.mono K12.out.size)).mono HW.out.size)); clear K; refine Hid.out ?_)
          refine hide ?_
          go_wp2
          go_roundw
          case rel => exact ⟨j + 1, by simp, by omega, by omega, hide (kcmp_step hjx hjy HK.out (by rw [HX.out, HY.out]; exact HFV.out)), HB8⟩
          case measure => simp [intOf]; omega
        · have HV := hide (show kcmp xs ys = fv by rw [kcmp_at hjx hjy HK.out (by rw [HX.out, HY.out, HFV.out]; exact hf), HX.out, HY.out]; exact HFV.out)
          obtain ⟨h0, h1, h2, h3, h4, h5, h6, h7, g0, g1, g2, g3, g4, g5, g6, g7⟩ := CF.out _ (Below.refl _ _)
          have HC2 := HCw.out _ (Below.refl _ _)
          clear CF HCw
          go_wp2_with (refine HC2.mono ?_; rintro e W3 ⟨rfl, K⟩; clear HC2 h0 h1 h2 h3 h4 h5 h6 h7 g0 g1 g2 g3 g4 g5 g6 g7; have HB8 := hide (HW.out.trans ((K12.out.trans (K.mono K12.out.size)).mono HW.out.size)); clear K; refine Hid.out ?_)
          refine hide ?_
          go_wp2
          go_ret
          exact ⟨by rw [HV.out]; rfl, HB8.out⟩
      · have q2 : (ys.length : Int) ≤ (j : Int) := by omega
        have HV := hide (show kcmp xs ys = 1 by
          have e : ys.length = j := by omega
          have h := kcmp_end (xs := xs) (ys := ys) (by
            have := HK.out
            rw [List.take_of_length_le (show ys.length ≤ j by omega)] at this
            rw [e, List.take_of_length_le (show ys.length ≤ xs.length by omega)]
            exact this)
          rw [h, if_neg (by omega), if_pos (by omega)])
        have KA := hide (HW.out.trans ((bel_new wr (.cells #[.int .i8 x.kind, .int .u64 x.n, .bool x.neg, .slice mo1 n1 mc1, .int .u64 x.bits, .int .i8 x.ext, .string tx, .slice ko1 l1 kc1] 31)).mono HW.out.size))
        clear hjy
        go_wp2
        go_ret
        exact ⟨by rw [HV.out]; rfl, KA.out⟩
    · have q1 : ¬ (j : Int) < (xs.length : Int) := by omega
      have hjl : j = xs.length := by omega
      have HV := hide (show kcmp xs ys = if xs.length < ys.length then -1 else 0 by
        have h := kcmp_end (xs := xs) (ys := ys) (by
          have := HK.out
          rw [hjl, List.take_of_length_le (Nat.le_refl _)] at this
          rw [List.take_of_length_le (show xs.length ≤ ys.length by omega)]
          exact this)
        rw [h]
        split
        · rfl
        · rw [if_neg (by omega)])
      by_cases hxy : xs.length < ys.length
      · have q2 : (xs.length : Int) < (ys.length : Int) := by omega
        have HV2 := hide (HV.out.trans (if_pos hxy))
        clear hxy hjl HV
        go_wp2
        go_ret
        exact ⟨by rw [HV2.out]; rfl, HW.out⟩
      · have q2 : ¬ (xs.length : Int) < (ys.length : Int) := by omega
        have HV2 := hide (HV.out.trans (if_neg hxy))
        clear hxy hjl HV
        go_wp2
        go_ret
        exact ⟨by rw [HV2.out]; rfl, HW.out⟩
set_option maxHeartbeats 4000000 in
theorem viscont_any {w : World} {v : Value} {x : Va} (h : VaRd w v x) : Calls Tryz.prog 35 #[v] w fun e w' => e = .returned (.bool (vcont x)) ∧ Below w.heap.size w w' := by
  obtain ⟨⟨vm1, vk1, rfl, hm1, hk1⟩, hw1⟩ := h
  obtain ⟨mo1, mc1, rfl, -, -⟩ : ∃ ao cap, vm1 = .slice ao x.mag.length cap ∧ True ∧ True := by obtain ⟨ao, cap, h, _⟩ := hm1; exact ⟨ao, cap, h, trivial, trivial⟩
  obtain ⟨ko1, kc1, rfl, -, -⟩ := hk1.len
  clear hm1 hk1 hw1
  unfold vaV vcont
  generalize x.mag.length = n1
  generalize x.kids.length = l1
  generalize strOfNums x.text = tx
  generalize x.kind = k
  generalize x.n = n
  generalize x.neg = g
  generalize x.bits = b
  generalize x.ext = e
  by_cases h7 : k = 7
  · subst h7
    go_enter Tryz.func35, Tryz.ntmps35
    go_wp2
    go_ret
    exact ⟨rfl, bel_new _ _⟩
  · by_cases h8 : k = 8
    · subst h8
      go_enter Tryz.func35, Tryz.ntmps35
      go_wp2
      go_ret
      exact ⟨rfl, bel_new _ _⟩
    · have e7 : (k == 7) = false := by simp [h7]
      have e8 : (k == 8) = false := by simp [h8]
      have HE := hide (show (k == 7 || k == 8 || k == 9) = (k == 9) by rw [e7, e8]; rfl)
      go_enter Tryz.func35, Tryz.ntmps35
      go_wp2
      go_ret
      exact ⟨by rw [HE.out]; rfl, bel_new _ _⟩
theorem kdep_take : ∀ {xs : List Va} {j : Nat} (h : j < xs.length), kdep (xs.take (j + 1)) = max (kdep (xs.take j)) (vdep xs[j])
  | [], j, h => by simp at h
  | a :: x, 0, h => by simp [kdep]; omega
  | a :: x, j + 1, h => by
    have ih := kdep_take (xs := x) (j := j) (by simpa using h)
    simp only [List.take_succ_cons, kdep, List.getElem_cons_succ] at ih ⊢
    rw [ih]
    omega
theorem kdep_bound {xs : List Va} (h : ∀ a ∈ xs, 0 ≤ vdep a ∧ vdep a ≤ vpts a) : 0 ≤ kdep xs ∧ kdep xs ≤ kpts xs := by
  induction xs with
  | nil => simp [kdep, kpts]
  | cons a x ih =>
    have h1 := h a (by simp)
    have h2 := ih (fun b hb => h b (by simp [hb]))
    rw [kdep, kpts]
    omega
theorem vdep_size : ∀ (N : Nat) (x : Va), SizeOf.sizeOf x ≤ N → 0 ≤ vdep x ∧ vdep x ≤ vpts x
  | 0, x, h => by cases x; simp at h
  | N + 1, x, h => by
    have hk := kdep_bound (xs := x.kids) fun k hk => vdep_size N k (by
      have := List.sizeOf_lt_of_mem hk
      cases x
      simp only [Va.kids] at this
      simp at h
      omega)
    rw [vdep_eq, vpts_eq]
    split <;> omega
theorem vdep_bound (x : Va) : 0 ≤ vdep x ∧ vdep x ≤ vpts x := vdep_size _ x (Nat.le_refl _)
def DepOf (x : Va) : Prop := ∀ (w : World) (v : Value), VaRd w v x → Calls Tryz.prog 26 #[v] w fun e w' => e = .returned (.int .i64 (vdep x)) ∧ Below w.heap.size w w'
set_option maxHeartbeats 16000000 in
set_option maxRecDepth 100000 in
theorem vdepth_stepU {x : Va} (hx : vpts x ≤ 1048577) (ih : ∀ k ∈ x.kids, DepOf k) : DepOf x := by
  intro w v h1
  have H1 := hide h1
  obtain ⟨⟨vm1, vk1, rfl, hm1, hk1⟩, hw1⟩ := h1
  have px : kpts x.kids ≤ 1048576 := by have := vpts_eq x; omega
  have HK := hide hk1
  have C1 := hide (fun U (k : Below w.heap.size w U) => viscont_any (H1.out.far k))
  obtain ⟨mo1, mc1, rfl, -, -⟩ : ∃ ao cap, vm1 = .slice ao x.mag.length cap ∧ True ∧ True := by obtain ⟨ao, cap, h, _⟩ := hm1; exact ⟨ao, cap, h, trivial, trivial⟩
  obtain ⟨ko1, kc1, rfl, hlc, hcm⟩ := hk1.len
  have HE := hide (vdep_eq x)
  have HI := hide ih
  obtain ⟨ks, hks⟩ : ∃ ks, x.kids = ks := ⟨_, rfl⟩
  rw [hks] at HK HE HI px hlc
  unfold vaV at C1 ⊢
  rw [hks] at C1 ⊢
  have l20 : ks.length ≤ 1048576 := Nat.le_trans (kpts_len ks) px
  have HP := hide px
  obtain ⟨n1, hn1⟩ : ∃ n, x.mag.length = n := ⟨_, rfl⟩
  rw [hn1] at C1 ⊢
  obtain ⟨tx, htx⟩ : ∃ t, strOfNums x.text = t := ⟨_, rfl⟩
  rw [htx] at C1 ⊢
  clear hn1 htx hm1 hk1 hw1 H1 hx ih hks px
  go_enter Tryz.func26, Tryz.ntmps26
  go_upto_region 1 with fail
  obtain ⟨W1, hW1⟩ : ∃ W1, w.alloc (.cells #[.int .i8 x.kind, .int .u64 x.n, .bool x.neg, .slice mo1 n1 mc1, .int .u64 x.bits, .int .i8 x.ext, .string tx, .slice ko1 ks.length kc1] 31) = W1 := ⟨_, rfl⟩
  have K1 : Hid (Below w.heap.size w W1) := hide (by rw [← hW1]; exact bel_new _ _)
  have BX : Hid (Box8 W1 w.heap.size (.int .i8 x.kind) (.int .u64 x.n) (.bool x.neg) (.slice mo1 n1 mc1) (.int .u64 x.bits) (.int .i8 x.ext) (.string tx) (.slice ko1 ks.length kc1)) := hide (by rw [← hW1]; exact box8_new _ _ _ _ _ _ _ _ _ _)
  have t1 : w.heap.size < W1.heap.size := by rw [← hW1]; simp
  rw [hW1]
  clear hW1
  obtain ⟨h0, h1, h2, h3, h4, h5, h6, h7⟩ := BX.out
  have CC := C1.out _ K1.out
  obtain ⟨ct, hct⟩ : ∃ c, vcont x = c := ⟨_, rfl⟩
  rw [hct] at CC HE
  clear hct C1
  cases ct
  · have HV := hide (show vdep x = 0 by rw [HE.out]; rfl)
    go_wp2_with (refine CC.mono ?_; rintro e W2 ⟨rfl, hb⟩; clear CC h0 h1 h2 h3 h4 h5 h6 h7)
    go_ret
    exact ⟨by rw [HV.out]; rfl, K1.out.trans (hb.mono K1.out.size)⟩
  · have HV := hide (show vdep x = kdep ks + 1 by rw [HE.out]; rfl)
    go_wp2_with (refine CC.mono ?_; rintro e W2 ⟨rfl, hb⟩; clear CC h0 h1 h2 h3 h4 h5 h6 h7; have K2 := hide (K1.out.trans (hb.mono K1.out.size)); have BX2 := hide (BX.out.below hb t1); clear hb; refine Hid.out ?_)
    refine hide ?_
    obtain ⟨h0, h1, h2, h3, h4, h5, h6, h7⟩ := BX2.out
    go_wp2
    clear h0 h1 h2 h3 h4 h5 h6 h7 BX BX2 K1 t1
    go_loopw [3, 12] (fun d i wr => ∃ j : Nat, d = .int .i64 (kdep (ks.take j)) ∧ i = .int .i64 j ∧ j ≤ ks.length ∧ Hid (Below w.heap.size w wr)) (fun _ i _ => ks.length - (intOf i).toNat)
    case atStart => exact ⟨0, by simp [kdep], rfl, by omega, K2⟩
    case round =>
      obtain ⟨j, rfl, rfl, hj, HW⟩ := hrel
      have bd : 0 ≤ kdep (ks.take j) ∧ kdep (ks.take j) ≤ 1048576 := by
        have h1 := kdep_bound (xs := ks.take j) fun a _ => vdep_bound a
        have h2 : kpts (ks.take j) ≤ kpts ks := by
          have := kpts_app (ks.take j) (ks.drop j)
          rw [List.take_append_drop] at this
          omega
        have := HP.out
        omega
      by_cases hjx : j < ks.length
      · have q1 : (j : Int) < (ks.length : Int) := by omega
        have HT := hide (kdep_take hjx)
        obtain ⟨d, hd⟩ : ∃ d, kdep (ks.take j) = d := ⟨_, rfl⟩
        rw [hd] at HT bd ⊢
        clear hd
        obtain ⟨b2, o2, vm2, vk2, rfl, hb2, cc2, hm2, hk2, hw2⟩ := VaSl.at (HK.out.far HW.out) rfl hjx
        obtain ⟨y, hyy⟩ : ∃ y, ks[j] = y := ⟨_, rfl⟩
        rw [hyy] at cc2 hm2 hk2 hw2 HT
        obtain ⟨y0, y1, y2, y3, y4, y5, y6, y7⟩ := cc2
        have HYM := hide (show y ∈ ks by rw [← hyy]; exact List.getElem_mem hjx)
        obtain ⟨mo2, mc2, rfl, -, -⟩ : ∃ ao cap, vm2 = .slice ao y.mag.length cap ∧ True ∧ True := by obtain ⟨ao, cap, h, _⟩ := hm2; exact ⟨ao, cap, h, trivial, trivial⟩
        obtain ⟨ko2, kc2, rfl, -, -⟩ := hk2.len
        obtain ⟨n2, hn2⟩ : ∃ n, y.mag.length = n := ⟨_, rfl⟩
        obtain ⟨l2, hl2⟩ : ∃ n, y.kids.length = n := ⟨_, rfl⟩
        rw [hn2] at y3 hm2
        rw [hl2] at y7 hk2
        have RY : VaRd wr (vaV y (.slice mo2 n2 mc2) (.slice ko2 l2 kc2)) y := ⟨⟨_, _, rfl, hm2, hk2⟩, hw2⟩
        unfold vaV at RY
        clear hyy hm2 hk2 hw2 hn2 hl2
        obtain ⟨ty, hty⟩ : ∃ t, strOfNums y.text = t := ⟨_, rfl⟩
        rw [hty] at y6 RY
        clear hty
        have C2 := hide (fun U (k : Below wr.heap.size wr U) => HI.out y HYM.out U _ (RY.far k))
        have bv := vdep_bound y
        have bw : vdep y ≤ 1048576 := by have := kpts_mem HYM.out; have := HP.out; omega
        clear RY
        go_upto_region 7 with fail
        obtain ⟨W3, hW3⟩ : ∃ W3, wr.alloc (.cells #[.int .i8 y.kind, .int .u64 y.n, .bool y.neg, .slice mo2 n2 mc2, .int .u64 y.bits, .int .i8 y.ext, .string ty, .slice ko2 l2 kc2] 31) = W3 := ⟨_, rfl⟩
        have K3 : Hid (Below wr.heap.size wr W3) := hide (by rw [← hW3]; exact bel_new _ _)
        have BY : Hid (Box8 W3 wr.heap.size (.int .i8 y.kind) (.int .u64 y.n) (.bool y.neg) (.slice mo2 n2 mc2) (.int .u64 y.bits) (.int .i8 y.ext) (.string ty) (.slice ko2 l2 kc2)) := hide (by rw [← hW3]; exact box8_new _ _ _ _ _ _ _ _ _ _)
        rw [hW3]
        clear hW3 y0 y1 y2 y3 y4 y5 y6 y7
        obtain ⟨g0, g1, g2, g3, g4, g5, g6, g7⟩ := BY.out
        have CC := C2.out _ K3.out
        obtain ⟨dv, hdv⟩ : ∃ d, vdep y = d := ⟨_, rfl⟩
        rw [hdv] at CC HT bv bw
        clear hdv C2
        go_wp2_with (refine CC.mono ?_; rintro e W4 ⟨rfl, hb⟩; clear CC g0 g1 g2 g3 g4 g5 g6 g7; have K4 := hide (HW.out.trans ((K3.out.trans (hb.mono K3.out.size)).mono HW.out.size)); clear hb)
        go_roundw
        case rel => exact ⟨j + 1, by rw [HT.out]; congr 1; split <;> omega, by simp, by omega, K4⟩
        case measure => simp [intOf]; omega
      · have q1 : ¬ (j : Int) < (ks.length : Int) := by omega
        have e : ks.take j = ks := List.take_of_length_le (by omega)
        rw [e] at bd ⊢
        obtain ⟨d, hd⟩ : ∃ d, kdep ks = d := ⟨_, rfl⟩
        rw [hd] at bd HV ⊢
        clear hd e
        have wd : IntKind.i64.wrap (d + 1) = d + 1 := by rw [IntKind.wrap_i64]; omega
        go_wp2
        go_ret
        exact ⟨by rw [HV.out]; rfl, HW.out⟩
theorem vdepth_size : ∀ (N : Nat) (x : Va), SizeOf.sizeOf x ≤ N → vpts x ≤ 1048576 → DepOf x
  | 0, x, h, _ => by cases x; simp at h
  | N + 1, x, h, hp => by
    refine vdepth_stepU (by omega) fun k hk => vdepth_size N k ?_ (Nat.le_trans (kpts_mem hk) (by have := vpts_eq x; omega))
    have := List.sizeOf_lt_of_mem hk
    cases x
    simp only [Va.kids] at this
    simp at h
    omega
theorem vdepth_any {x : Va} (h : vpts x ≤ 1048576) : DepOf x := vdepth_size _ x (Nat.le_refl _) h
end Go.Proofs.YticmlelalbaalaaGreatDoor
