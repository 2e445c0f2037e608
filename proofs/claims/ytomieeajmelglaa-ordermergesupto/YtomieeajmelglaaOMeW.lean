/- OrderMerges: the walk -/
import Derived.Test.YtomieeajmelglaaOMine
import Derived.Test.YtomieeajmelglaaOMgN
import Derived.Test.YtomieeajmelglaaORmg
import Derived.Test.YtomieeajmelglaaORun
namespace Go.Proofs.Ytomieeajmelglaa
open Go.RowKit Go.Shelf
set_option linter.unusedVariables false
set_option linter.unusedSimpArgs false

set_option maxRecDepth 100000 in
set_option maxHeartbeats 8000000 in
theorem merges_any {w : World} {va vb : Value} {xs ys : List It} {o : Int} (ha : ItRd (fun _ => True) w va xs) (hb : ItRd (fun _ => True) w vb ys) (hna : ∀ c, va = .slice none 0 c → c = 0) (hnb : ∀ c, vb = .slice none 0 c → c = 0) (hl : xs.length ≤ 1048576) (hm : ys.length ≤ 1048576) :
    Calls Try.prog 4 #[va, vb, .int .i64 o] w fun e w' => e = .returned (.bool true) ∧ Below w.heap.size w w' := by
  have RX := hide ha
  have RY := hide hb
  have NB := hide hnb
  have RY0 := hide hb
  have CC := hide (lend2_any ha hna (by omega))
  obtain ⟨ao, ca, rfl, -, -, -⟩ := ha
  obtain ⟨bo, cb, rfl, -, -, -⟩ := hb
  have hZl : (mrg (byF o) xs ys).length = xs.length + ys.length := mrg_len _ _ _
  have hYl : (mrg (byF o) ys xs).length = ys.length + xs.length := mrg_len _ _ _
  have hNl : (fs1 (byF o) xs).length ≤ xs.length := fs1_le _ _
  obtain ⟨Z, hZ⟩ : ∃ s, mrg (byF o) xs ys = s := ⟨_, rfl⟩
  obtain ⟨Y, hY⟩ : ∃ s, mrg (byF o) ys xs = s := ⟨_, rfl⟩
  obtain ⟨N, hN⟩ : ∃ s, fs1 (byF o) xs = s := ⟨_, rfl⟩
  rw [hZ] at hZl
  rw [hY] at hYl
  rw [hN] at hNl
  have HZ := hide hZ
  have HY := hide hY
  have HN := hide hN
  have LZ := hide hZl
  have LY := hide hYl
  have LN := hide hNl
  clear hna hnb hZ hY hN hZl hYl hNl
  go_enter Try.func4, Try.ntmps4
  go_wp2_with fail
  refine CC.out.mono ?_
  rintro e w1 ⟨⟨gt, rfl, hL⟩, k⟩
  have LT := hide hL
  have MT := hide (Mine.of_lent hL)
  have KK := hide k
  have Z1 := hide k.size
  replace RX := hide (RX.out.far k)
  replace RY := hide (RY.out.far k)
  clear CC k hL
  have CC := hide (lend2_any RY.out NB.out (by omega))
  go_wp2_with fail
  refine CC.out.mono ?_
  rintro e w2 ⟨⟨gu, rfl, hL⟩, k⟩
  have LU := hide hL
  have MU := hide (Mine.of_lent hL)
  replace KK := hide (below_trans KK.out k)
  have Z2 := hide k.size
  replace RX := hide (RX.out.far k)
  replace RY := hide (RY.out.far k)
  replace LT := hide (LT.out.far k)
  replace MT := hide (MT.out.far k)
  clear CC k hL NB
  go_wp2_with (go_at_call 10; (with_reducible refine by_any.mono ?_); rintro e w2 ⟨rfl, rfl⟩)
  have CC := hide (merge_any (I := fun _ => True) (w := w2) MT.out.rd MU.out.rd (by omega) (by_is o) trivial (fun _ _ _ _ => trivial))
  go_wp2_with fail
  refine CC.out.mono ?_
  rintro e w3 ⟨⟨v, rfl, hO⟩, k⟩
  replace RX := hide (RX.out.far k)
  replace RY := hide (RY.out.far k)
  replace LT := hide (LT.out.far k)
  replace LU := hide (LU.out.far k)
  replace MT := hide (MT.out.far k)
  replace MU := hide (MU.out.far k)
  replace KK := hide (below_trans KK.out k)
  have Z3 := hide k.size
  rw [HZ.out] at hO
  have MA := hide (Mine.of_own hO)
  obtain ⟨pMA, eMA⟩ := MA.out.sh
  subst eMA
  clear hO
  clear CC k
  go_wp2_with (go_at_call 10; (with_reducible refine by_any.mono ?_); rintro e w3 ⟨rfl, rfl⟩)
  have CC := hide (merge_any (I := fun _ => True) (w := w3) MT.out.rd MU.out.rd (by omega) (by_is o) trivial (fun _ _ _ _ => trivial))
  go_wp2_with fail
  refine CC.out.mono ?_
  rintro e w4 ⟨⟨v, rfl, hO⟩, k⟩
  replace RX := hide (RX.out.far k)
  replace RY := hide (RY.out.far k)
  replace LT := hide (LT.out.far k)
  replace LU := hide (LU.out.far k)
  replace MT := hide (MT.out.far k)
  replace MU := hide (MU.out.far k)
  replace MA := hide (MA.out.far k)
  replace KK := hide (below_trans KK.out k)
  have Z4 := hide k.size
  rw [HZ.out] at hO
  have MB := hide (Mine.of_own hO)
  obtain ⟨pMB, eMB⟩ := MB.out.sh
  subst eMB
  clear hO
  clear CC k
  go_wp2_with (go_at_call 10; (with_reducible refine by_any.mono ?_); rintro e w4 ⟨rfl, rfl⟩)
  have CC := hide (unique_any (I := fun _ => True) (w := w4) MT.out.rd MT.out.no (by omega) (by_is o) trivial (fun _ _ _ _ => trivial))
  go_wp2_with fail
  refine CC.out.mono ?_
  rintro e w5 ⟨⟨v, rfl, hO⟩, k⟩
  replace RX := hide (RX.out.far k)
  replace RY := hide (RY.out.far k)
  replace LT := hide (LT.out.far k)
  replace LU := hide (LU.out.far k)
  replace MT := hide (MT.out.far k)
  replace MU := hide (MU.out.far k)
  replace MA := hide (MA.out.far k)
  replace MB := hide (MB.out.far k)
  replace KK := hide (below_trans KK.out k)
  have Z5 := hide k.size
  rw [unq_fs, HN.out] at hO
  obtain ⟨cMC, hMC⟩ := Mine.of_row hO
  have MC := hide hMC
  obtain ⟨pMC, eMC⟩ := MC.out.sh
  subst eMC
  clear hO hMC
  clear CC k
  go_wp2_with (go_at_call 10; (with_reducible refine by_any.mono ?_); rintro e w5 ⟨rfl, rfl⟩)
  have CC := hide (unique_any (I := fun _ => True) (w := w5) MT.out.rd MT.out.no (by omega) (by_is o) trivial (fun _ _ _ _ => trivial))
  go_wp2_with fail
  refine CC.out.mono ?_
  rintro e w6 ⟨⟨v, rfl, hO⟩, k⟩
  replace RX := hide (RX.out.far k)
  replace RY := hide (RY.out.far k)
  replace LT := hide (LT.out.far k)
  replace LU := hide (LU.out.far k)
  replace MT := hide (MT.out.far k)
  replace MU := hide (MU.out.far k)
  replace MA := hide (MA.out.far k)
  replace MB := hide (MB.out.far k)
  replace MC := hide (MC.out.far k)
  replace KK := hide (below_trans KK.out k)
  have Z6 := hide k.size
  rw [unq_fs, HN.out] at hO
  obtain ⟨cMD, hMD⟩ := Mine.of_row hO
  have MD := hide hMD
  obtain ⟨pMD, eMD⟩ := MD.out.sh
  subst eMD
  clear hO hMD
  clear CC k
  go_wp2_with (go_at_call 10; (with_reducible refine by_any.mono ?_); rintro e w6 ⟨rfl, rfl⟩)
  have CC := hide (merge_any (I := fun _ => True) (w := w6) MU.out.rd MT.out.rd (by omega) (by_is o) trivial (fun _ _ _ _ => trivial))
  go_wp2_with fail
  refine CC.out.mono ?_
  rintro e w7 ⟨⟨v, rfl, hO⟩, k⟩
  replace RX := hide (RX.out.far k)
  replace RY := hide (RY.out.far k)
  replace LT := hide (LT.out.far k)
  replace LU := hide (LU.out.far k)
  replace MT := hide (MT.out.far k)
  replace MU := hide (MU.out.far k)
  replace MA := hide (MA.out.far k)
  replace MB := hide (MB.out.far k)
  replace MC := hide (MC.out.far k)
  replace MD := hide (MD.out.far k)
  replace KK := hide (below_trans KK.out k)
  have Z7 := hide k.size
  rw [HY.out] at hO
  have ME := hide (Mine.of_own hO)
  obtain ⟨pME, eME⟩ := ME.out.sh
  subst eME
  clear hO
  clear CC k
  have CC := hide (rmerge_any (o := o) RX.out RY.out (by omega))
  rw [mrg_by, HZ.out] at CC
  go_wp2_with fail
  refine CC.out.mono ?_
  rintro e w8 ⟨⟨v, rfl, hO⟩, k⟩
  replace RX := hide (RX.out.far k)
  replace RY := hide (RY.out.far k)
  replace LT := hide (LT.out.far k)
  replace LU := hide (LU.out.far k)
  replace MT := hide (MT.out.far k)
  replace MU := hide (MU.out.far k)
  replace MA := hide (MA.out.far k)
  replace MB := hide (MB.out.far k)
  replace MC := hide (MC.out.far k)
  replace MD := hide (MD.out.far k)
  replace ME := hide (ME.out.far k)
  replace KK := hide (below_trans KK.out k)
  have Z8 := hide k.size
  obtain ⟨nMV, hO⟩ := hO
  obtain ⟨cMV, hMV⟩ := Mine.of_row hO
  have MV := hide hMV
  obtain ⟨pMV, eMV⟩ := MV.out.sh
  subst eMV
  clear hO hMV
  clear CC k
  have CC := hide (runique_any (o := o) RX.out (by omega))
  rw [fs1_by, HN.out] at CC
  go_wp2_with fail
  refine CC.out.mono ?_
  rintro e w9 ⟨⟨v, rfl, hO⟩, k⟩
  replace RX := hide (RX.out.far k)
  replace RY := hide (RY.out.far k)
  replace LT := hide (LT.out.far k)
  replace LU := hide (LU.out.far k)
  replace MT := hide (MT.out.far k)
  replace MU := hide (MU.out.far k)
  replace MA := hide (MA.out.far k)
  replace MB := hide (MB.out.far k)
  replace MC := hide (MC.out.far k)
  replace MD := hide (MD.out.far k)
  replace ME := hide (ME.out.far k)
  replace MV := hide (MV.out.far k)
  replace KK := hide (below_trans KK.out k)
  have Z9 := hide k.size
  obtain ⟨nMN, hO⟩ := hO
  obtain ⟨cMN, hMN⟩ := Mine.of_row hO
  have MN := hide hMN
  obtain ⟨pMN, eMN⟩ := MN.out.sh
  subst eMN
  clear hO hMN
  clear CC k
  have CC := hide (osame_any MA.out.rd MV.out.rd)
  go_wp2_with fail
  refine CC.out.mono ?_
  rintro e w10 ⟨rfl, k⟩
  replace RX := hide (RX.out.far k)
  replace RY := hide (RY.out.far k)
  replace LT := hide (LT.out.far k)
  replace LU := hide (LU.out.far k)
  replace MT := hide (MT.out.far k)
  replace MU := hide (MU.out.far k)
  replace MA := hide (MA.out.far k)
  replace MB := hide (MB.out.far k)
  replace MC := hide (MC.out.far k)
  replace MD := hide (MD.out.far k)
  replace ME := hide (ME.out.far k)
  replace MV := hide (MV.out.far k)
  replace MN := hide (MN.out.far k)
  replace KK := hide (below_trans KK.out k)
  have Z10 := hide k.size
  clear CC k
  have CC := hide (osame_any MB.out.rd MV.out.rd)
  go_wp2_with fail
  refine CC.out.mono ?_
  rintro e w11 ⟨rfl, k⟩
  replace RX := hide (RX.out.far k)
  replace RY := hide (RY.out.far k)
  replace LT := hide (LT.out.far k)
  replace LU := hide (LU.out.far k)
  replace MT := hide (MT.out.far k)
  replace MU := hide (MU.out.far k)
  replace MA := hide (MA.out.far k)
  replace MB := hide (MB.out.far k)
  replace MC := hide (MC.out.far k)
  replace MD := hide (MD.out.far k)
  replace ME := hide (ME.out.far k)
  replace MV := hide (MV.out.far k)
  replace MN := hide (MN.out.far k)
  replace KK := hide (below_trans KK.out k)
  have Z11 := hide k.size
  clear MV
  clear CC k
  have CC := hide (osame_any MC.out.rd MN.out.rd)
  go_wp2_with fail
  refine CC.out.mono ?_
  rintro e w12 ⟨rfl, k⟩
  replace RX := hide (RX.out.far k)
  replace RY := hide (RY.out.far k)
  replace LT := hide (LT.out.far k)
  replace LU := hide (LU.out.far k)
  replace MT := hide (MT.out.far k)
  replace MU := hide (MU.out.far k)
  replace MA := hide (MA.out.far k)
  replace MB := hide (MB.out.far k)
  replace MC := hide (MC.out.far k)
  replace MD := hide (MD.out.far k)
  replace ME := hide (ME.out.far k)
  replace MN := hide (MN.out.far k)
  replace KK := hide (below_trans KK.out k)
  have Z12 := hide k.size
  clear CC k
  have CC := hide (osame_any MD.out.rd MN.out.rd)
  go_wp2_with fail
  refine CC.out.mono ?_
  rintro e w13 ⟨rfl, k⟩
  replace RX := hide (RX.out.far k)
  replace RY := hide (RY.out.far k)
  replace LT := hide (LT.out.far k)
  replace LU := hide (LU.out.far k)
  replace MT := hide (MT.out.far k)
  replace MU := hide (MU.out.far k)
  replace MA := hide (MA.out.far k)
  replace MB := hide (MB.out.far k)
  replace MC := hide (MC.out.far k)
  replace MD := hide (MD.out.far k)
  replace ME := hide (ME.out.far k)
  replace MN := hide (MN.out.far k)
  replace KK := hide (below_trans KK.out k)
  have Z13 := hide k.size
  clear MN
  clear CC k
  have CC := hide (rmerge_any (o := o) RY.out RX.out (by omega))
  rw [mrg_by, HY.out] at CC
  go_wp2_with fail
  refine CC.out.mono ?_
  rintro e w14 ⟨⟨v, rfl, hO⟩, k⟩
  replace RX := hide (RX.out.far k)
  replace RY := hide (RY.out.far k)
  replace LT := hide (LT.out.far k)
  replace LU := hide (LU.out.far k)
  replace MT := hide (MT.out.far k)
  replace MU := hide (MU.out.far k)
  replace MA := hide (MA.out.far k)
  replace MB := hide (MB.out.far k)
  replace MC := hide (MC.out.far k)
  replace MD := hide (MD.out.far k)
  replace ME := hide (ME.out.far k)
  replace KK := hide (below_trans KK.out k)
  have Z14 := hide k.size
  obtain ⟨nMV, hO⟩ := hO
  obtain ⟨cMV, hMV⟩ := Mine.of_row hO
  have MV := hide hMV
  obtain ⟨pMV, eMV⟩ := MV.out.sh
  subst eMV
  clear hO hMV
  clear CC k
  have CC := hide (osame_any ME.out.rd MV.out.rd)
  go_wp2_with fail
  refine CC.out.mono ?_
  rintro e w15 ⟨rfl, k⟩
  replace RX := hide (RX.out.far k)
  replace RY := hide (RY.out.far k)
  replace LT := hide (LT.out.far k)
  replace LU := hide (LU.out.far k)
  replace MT := hide (MT.out.far k)
  replace MU := hide (MU.out.far k)
  replace MA := hide (MA.out.far k)
  replace MB := hide (MB.out.far k)
  replace MC := hide (MC.out.far k)
  replace MD := hide (MD.out.far k)
  replace ME := hide (ME.out.far k)
  replace MV := hide (MV.out.far k)
  replace KK := hide (below_trans KK.out k)
  have Z15 := hide k.size
  clear MV
  clear CC k
  have CC := hide (left_any LT.out RX.out (by omega))
  go_wp2_with fail
  refine CC.out.mono ?_
  rintro e w16 ⟨rfl, k⟩
  replace RX := hide (RX.out.far k)
  replace RY := hide (RY.out.far k)
  replace LT := hide (LT.out.far k)
  replace LU := hide (LU.out.far k)
  replace MT := hide (MT.out.far k)
  replace MU := hide (MU.out.far k)
  replace MA := hide (MA.out.far k)
  replace MB := hide (MB.out.far k)
  replace MC := hide (MC.out.far k)
  replace MD := hide (MD.out.far k)
  replace ME := hide (ME.out.far k)
  replace KK := hide (below_trans KK.out k)
  have Z16 := hide k.size
  clear LT RX
  clear CC k
  have CC := hide (left_any LU.out RY.out (by omega))
  go_wp2_with fail
  refine CC.out.mono ?_
  rintro e w17 ⟨rfl, k⟩
  replace RY := hide (RY.out.far k)
  replace LU := hide (LU.out.far k)
  replace MT := hide (MT.out.far k)
  replace MU := hide (MU.out.far k)
  replace MA := hide (MA.out.far k)
  replace MB := hide (MB.out.far k)
  replace MC := hide (MC.out.far k)
  replace MD := hide (MD.out.far k)
  replace ME := hide (ME.out.far k)
  replace KK := hide (below_trans KK.out k)
  have Z17 := hide k.size
  clear LU
  clear CC k
  go_wp2_with fail
  refine merge_nil.mono ?_
  rintro e w18 ⟨rfl, k⟩
  replace RY := hide (RY.out.far k)
  replace MT := hide (MT.out.far k)
  replace MU := hide (MU.out.far k)
  replace MA := hide (MA.out.far k)
  replace MB := hide (MB.out.far k)
  replace MC := hide (MC.out.far k)
  replace MD := hide (MD.out.far k)
  replace ME := hide (ME.out.far k)
  replace KK := hide (below_trans KK.out k)
  have Z18 := hide k.size
  clear k
  go_wp2_with fail
  refine unique_nil.mono ?_
  rintro e w19 ⟨rfl, k⟩
  replace RY := hide (RY.out.far k)
  replace MT := hide (MT.out.far k)
  replace MU := hide (MU.out.far k)
  replace MA := hide (MA.out.far k)
  replace MB := hide (MB.out.far k)
  replace MC := hide (MC.out.far k)
  replace MD := hide (MD.out.far k)
  replace ME := hide (ME.out.far k)
  replace KK := hide (below_trans KK.out k)
  have Z19 := hide k.size
  clear k
  obtain ⟨h, hh⟩ : ∃ h, xs.length / 2 = h := ⟨_, rfl⟩
  have hq : (xs.length : Int) / 2 = (h : Int) := by omega
  have hq2 : (xs.length : Int).tdiv 2 = (h : Int) := by rw [Int.tdiv_eq_ediv_of_nonneg (by omega)]; omega
  have hgt : Hid (w.heap.size ≤ gt ∧ gt < w1.heap.size) := hide (MT.out.at_ gt rfl)
  have HH := hide hh
  clear hh RY
  go_wp2
  go_loopw [16, 17] (fun p q wr => ∃ (i : Nat) (c : List It), p = .int .i64 i ∧ i ≤ h ∧ Hid (c.length = xs.length) ∧ Hid (Mine w.heap.size w1.heap.size (xs.length + 4) wr (.slice (some ⟨gt, 0, none⟩) xs.length (xs.length + 4)) c) ∧ Hid (BelX (fun k => k = gt) w19.heap.size w19 wr)) (fun p _ _ => h - (intOf p).toNat)
  case atStart => exact ⟨0, xs, rfl, by omega, hide rfl, MT, hide (BelX.refl _ _ _)⟩
  case round =>
    clear MT
    obtain ⟨i, c, rfl, hi, hcl, hM, hX⟩ := hrel
    by_cases hil : i < h
    · have q1 : (i : Int) < (h : Int) := by omega
      obtain ⟨k, hk⟩ : ∃ k, xs.length - 1 - i = k := ⟨_, rfl⟩
      have hH := HH.out
      have w1' : IntKind.i64.wrap ((xs.length : Int) - 1) = (xs.length : Int) - 1 := by rw [IntKind.wrap_i64]; omega
      have w2' : IntKind.i64.wrap ((xs.length : Int) - 1 - (i : Int)) = (k : Int) := by rw [IntKind.wrap_i64]; omega
      have w3' : IntKind.i64.wrap ((i : Int) + 1) = (i : Int) + 1 := by rw [IntKind.wrap_i64]; omega
      have q2 : (i : Int) < (xs.length : Int) := by omega
      have q3 : (k : Int) < (xs.length : Int) := by omega
      have hik : i < c.length := by rw [hcl.out]; omega
      have hkk : k < c.length := by rw [hcl.out]; omega
      have hM' := hM.out
      rw [← hcl.out] at hM'
      obtain ⟨a1, a2, a3, a4⟩ := owns_cell (c := c) (show wr.ownsRow w.heap.size 27 2 (.slice (some ⟨gt, 0, none⟩) c.length (c.length + 4)) c.length (flat c) from hM'.own) hik
      obtain ⟨b1, b2, b3, b4⟩ := owns_cell (c := c) (show wr.ownsRow w.heap.size 27 2 (.slice (some ⟨gt, 0, none⟩) c.length (c.length + 4)) c.length (flat c) from hM'.own) hkk
      have SW := hM'.swap hik hkk
      obtain ⟨⟨x1, x2⟩, hx⟩ : ∃ x, c[i] = x := ⟨_, rfl⟩
      obtain ⟨⟨y1, y2⟩, hy⟩ : ∃ x, c[k] = x := ⟨_, rfl⟩
      rw [hx] at a1 a2 SW
      rw [hy] at b1 b2 SW
      have hlen : ((c.set i (y1, y2)).set k (x1, x2)).length = xs.length := by simpa using hcl.out
      rw [hcl.out] at SW
      simp only at SW a1 a2 b1 b2
      have HLN := hide hlen
      have HSW := hide (SW.far ((Below.refl _ _).drew))
      have HX2 := hide (((((hX.out.trans (belx_set (i := i * 2) wr (.int .i64 y1) (rfl : gt = gt))).trans (belx_set (i := i * 2 + 1) _ (.int .i64 y2) (rfl : gt = gt))).trans (belx_set (i := k * 2) _ (.int .i64 x1) (rfl : gt = gt))).trans (belx_set (i := k * 2 + 1) _ (.int .i64 x2) (rfl : gt = gt))).trans (BelX.of ((Below.refl _ _).drew) (by have := hX.out.size; simpa using this)))
      have hki : k ≠ i := by omega
      have hki' : i ≠ k := by omega
      have n1 : ¬ k * 2 = i * 2 + 1 := by omega
      have n2 : ¬ k * 2 + 1 = i * 2 := by omega
      have n3 : ¬ i * 2 = k * 2 + 1 := by omega
      have n4 : ¬ i * 2 + 1 = k * 2 := by omega
      clear hM' hx hy hlen SW hik hkk hH hk
      go_wp2
      go_region
      go_wp2
      go_roundw
      case rel => exact ⟨i + 1, _, by simp, by omega, HLN, HSW, HX2⟩
      case measure => simp [intOf]; omega
    · have q1 : ¬ (i : Int) < (h : Int) := by omega
      have bx := hX.out
      have t0 := hgt.out
      have z1 := Z1.out
      have z2 := Z2.out
      have z3 := Z3.out
      have z4 := Z4.out
      have z5 := Z5.out
      have z6 := Z6.out
      have z7 := Z7.out
      have z8 := Z8.out
      have z9 := Z9.out
      have z10 := Z10.out
      have z11 := Z11.out
      have z12 := Z12.out
      have z13 := Z13.out
      have z14 := Z14.out
      have z15 := Z15.out
      have z16 := Z16.out
      have z17 := Z17.out
      have z18 := Z18.out
      have z19 := Z19.out
      replace MU := hide (MU.out.belx bx (by omega))
      replace MA := hide (MA.out.belx bx (by omega))
      replace MB := hide (MB.out.belx bx (by omega))
      replace MC := hide (MC.out.belx bx (by omega))
      replace MD := hide (MD.out.belx bx (by omega))
      replace ME := hide (ME.out.belx bx (by omega))
      replace KK := hide (KK.out.trans (bx.below (B := w.heap.size) (by omega) (fun k hk e => by omega)))
      have Z20 := hide bx.size
      have RY := hide (RY0.out.far KK.out)
      have MT := hM
      clear bx t0 hM hX RY0 z1 z2 z3 z4 z5 z6 z7 z8 z9 z10 z11 z12 z13 z14 z15 z16 z17 z18 z19
      have hZ3l : (mrg (byF o) c ys).length = xs.length + ys.length := by rw [mrg_len, hcl.out]
      have hN3l : (fs1 (byF o) c).length ≤ xs.length := by rw [← hcl.out]; exact fs1_le _ _
      obtain ⟨Z', hZ'⟩ : ∃ s, mrg (byF o) c ys = s := ⟨_, rfl⟩
      obtain ⟨N', hN'⟩ : ∃ s, fs1 (byF o) c = s := ⟨_, rfl⟩
      rw [hZ'] at hZ3l
      rw [hN'] at hN3l
      have HZ3 := hide hZ'
      have HN3 := hide hN'
      have LZ3 := hide hZ3l
      have LN3 := hide hN3l
      clear hZ' hN' hZ3l hN3l
      go_wp2_with (go_at_call 10; (with_reducible refine by_any.mono ?_); rintro e w20 ⟨rfl, rfl⟩)
      have CC := hide (merge_any (I := fun _ => True) (w := w20) MT.out.rd MU.out.rd (by rw [hcl.out]; omega) (by_is o) trivial (fun _ _ _ _ => trivial))
      go_wp2_with fail
      refine CC.out.mono ?_
      rintro e w21 ⟨⟨v, rfl, hO⟩, k⟩
      replace RY := hide (RY.out.far k)
      replace MT := hide (MT.out.far k)
      replace MU := hide (MU.out.far k)
      replace MA := hide (MA.out.far k)
      replace MB := hide (MB.out.far k)
      replace MC := hide (MC.out.far k)
      replace MD := hide (MD.out.far k)
      replace ME := hide (ME.out.far k)
      replace KK := hide (below_trans KK.out k)
      have Z21 := hide k.size
      rw [HZ3.out] at hO
      have MF := hide (Mine.of_own hO)
      obtain ⟨pMF, eMF⟩ := MF.out.sh
      subst eMF
      clear hO
      clear CC k
      go_wp2_with (go_at_call 10; (with_reducible refine by_any.mono ?_); rintro e w21 ⟨rfl, rfl⟩)
      have CC := hide (unique_any (I := fun _ => True) (w := w21) MT.out.rd MT.out.no (by rw [hcl.out]; omega) (by_is o) trivial (fun _ _ _ _ => trivial))
      go_wp2_with fail
      refine CC.out.mono ?_
      rintro e w22 ⟨⟨v, rfl, hO⟩, k⟩
      replace RY := hide (RY.out.far k)
      replace MT := hide (MT.out.far k)
      replace MU := hide (MU.out.far k)
      replace MA := hide (MA.out.far k)
      replace MB := hide (MB.out.far k)
      replace MC := hide (MC.out.far k)
      replace MD := hide (MD.out.far k)
      replace ME := hide (ME.out.far k)
      replace MF := hide (MF.out.far k)
      replace KK := hide (below_trans KK.out k)
      have Z22 := hide k.size
      rw [unq_fs, HN3.out] at hO
      obtain ⟨cMG, hMG⟩ := Mine.of_row hO
      have MG := hide hMG
      obtain ⟨pMG, eMG⟩ := MG.out.sh
      subst eMG
      clear hO hMG
      clear CC k
      have OW : Hid ((w22.alloc (.cells #[] 27)).ownsRow w22.heap.size 27 2 (.slice (some ⟨w22.heap.size, 0, none⟩) 0 0) 0 []) := hide (World.ownsRow_made w22 _ 0 (Nat.le_refl _) (by unfold maxLen; omega) (by simp))
      go_wp2_with (at_builtin; refine wpList_append_items rfl _ _ rfl w22.heap.size _ 0 [] rfl OW.out _ c rfl (MT.out.rd.far ((Below.refl _ _).alloc (Nat.le_refl _) _)) MT.out.no (by rw [hcl.out]; unfold maxLen; omega) (by rw [hcl.out]; omega) (by simp) ?_)
      intro v4 w23 own4 bel4
      have k : Below w22.heap.size w22 w23 := ((Below.refl _ w22).alloc (Nat.le_refl _) _).trans bel4
      have RC := hide (own_rdA own4)
      obtain ⟨p4, c4, e4, -, -, -⟩ := RC.out
      subst e4
      have Z23 := hide k.size
      replace RY := hide (RY.out.far k)
      replace MT := hide (MT.out.far k)
      replace MU := hide (MU.out.far k)
      replace MA := hide (MA.out.far k)
      replace MB := hide (MB.out.far k)
      replace MC := hide (MC.out.far k)
      replace MD := hide (MD.out.far k)
      replace ME := hide (ME.out.far k)
      replace MF := hide (MF.out.far k)
      replace MG := hide (MG.out.far k)
      replace KK := hide (below_trans KK.out k)
      clear k own4 bel4 OW
      have CC := hide (rmerge_any (o := o) RC.out RY.out (by rw [hcl.out]; omega))
      rw [mrg_by, HZ3.out] at CC
      go_wp2_with fail
      refine CC.out.mono ?_
      rintro e w24 ⟨⟨v, rfl, hO⟩, k⟩
      replace RY := hide (RY.out.far k)
      replace MT := hide (MT.out.far k)
      replace MU := hide (MU.out.far k)
      replace MA := hide (MA.out.far k)
      replace MB := hide (MB.out.far k)
      replace MC := hide (MC.out.far k)
      replace MD := hide (MD.out.far k)
      replace ME := hide (ME.out.far k)
      replace MF := hide (MF.out.far k)
      replace MG := hide (MG.out.far k)
      replace RC := hide (RC.out.far k)
      replace KK := hide (below_trans KK.out k)
      have Z24 := hide k.size
      obtain ⟨nMV, hO⟩ := hO
      obtain ⟨cMV, hMV⟩ := Mine.of_row hO
      have MV := hide hMV
      obtain ⟨pMV, eMV⟩ := MV.out.sh
      subst eMV
      clear hO hMV
      clear CC k
      have CC := hide (osame_any MF.out.rd MV.out.rd)
      go_wp2_with fail
      refine CC.out.mono ?_
      rintro e w25 ⟨rfl, k⟩
      replace RY := hide (RY.out.far k)
      replace MT := hide (MT.out.far k)
      replace MU := hide (MU.out.far k)
      replace MA := hide (MA.out.far k)
      replace MB := hide (MB.out.far k)
      replace MC := hide (MC.out.far k)
      replace MD := hide (MD.out.far k)
      replace ME := hide (ME.out.far k)
      replace MF := hide (MF.out.far k)
      replace MG := hide (MG.out.far k)
      replace RC := hide (RC.out.far k)
      replace KK := hide (below_trans KK.out k)
      have Z25 := hide k.size
      clear MV
      clear CC k
      have CC := hide (runique_any (o := o) RC.out (by rw [hcl.out]; omega))
      rw [fs1_by, HN3.out] at CC
      go_wp2_with fail
      refine CC.out.mono ?_
      rintro e w26 ⟨⟨v, rfl, hO⟩, k⟩
      replace RY := hide (RY.out.far k)
      replace MT := hide (MT.out.far k)
      replace MU := hide (MU.out.far k)
      replace MA := hide (MA.out.far k)
      replace MB := hide (MB.out.far k)
      replace MC := hide (MC.out.far k)
      replace MD := hide (MD.out.far k)
      replace ME := hide (ME.out.far k)
      replace MF := hide (MF.out.far k)
      replace MG := hide (MG.out.far k)
      replace RC := hide (RC.out.far k)
      replace KK := hide (below_trans KK.out k)
      have Z26 := hide k.size
      obtain ⟨nMV, hO⟩ := hO
      obtain ⟨cMV, hMV⟩ := Mine.of_row hO
      have MV := hide hMV
      obtain ⟨pMV, eMV⟩ := MV.out.sh
      subst eMV
      clear hO hMV
      clear CC k
      have CC := hide (osame_any MG.out.rd MV.out.rd)
      go_wp2_with fail
      refine CC.out.mono ?_
      rintro e w27 ⟨rfl, k⟩
      replace RY := hide (RY.out.far k)
      replace MT := hide (MT.out.far k)
      replace MU := hide (MU.out.far k)
      replace MA := hide (MA.out.far k)
      replace MB := hide (MB.out.far k)
      replace MC := hide (MC.out.far k)
      replace MD := hide (MD.out.far k)
      replace ME := hide (ME.out.far k)
      replace MF := hide (MF.out.far k)
      replace MG := hide (MG.out.far k)
      replace RC := hide (RC.out.far k)
      replace KK := hide (below_trans KK.out k)
      have Z27 := hide k.size
      clear MV RC
      clear CC k
      obtain ⟨W28, hW28⟩ : ∃ u, w27.alloc (.cells #[.slice pMA Z.length Z.length, .slice pMB Z.length Z.length, .slice pMC N.length cMC, .slice pMD N.length cMD, .slice pME Y.length Y.length, .slice pMF Z'.length Z'.length, .slice pMG N'.length cMG, .slice (some ⟨gt, 0, none⟩) xs.length (xs.length + 4), .slice (some ⟨gu, 0, none⟩) ys.length (ys.length + 4)] 22) = u := ⟨_, rfl⟩
      have k : Below w27.heap.size w27 W28 := by rw [← hW28]; exact (Below.refl _ w27).alloc (Nat.le_refl _) _
      have hgl : W28.heap[w27.heap.size]? = some (.cells #[.slice pMA Z.length Z.length, .slice pMB Z.length Z.length, .slice pMC N.length cMC, .slice pMD N.length cMD, .slice pME Y.length Y.length, .slice pMF Z'.length Z'.length, .slice pMG N'.length cMG, .slice (some ⟨gt, 0, none⟩) xs.length (xs.length + 4), .slice (some ⟨gu, 0, none⟩) ys.length (ys.length + 4)] 22 (0, 0)) := by rw [← hW28]; exact heap_alloc_new w27 _
      replace MT := hide (MT.out.far k)
      replace MU := hide (MU.out.far k)
      replace MA := hide (MA.out.far k)
      replace MB := hide (MB.out.far k)
      replace MC := hide (MC.out.far k)
      replace MD := hide (MD.out.far k)
      replace ME := hide (ME.out.far k)
      replace MF := hide (MF.out.far k)
      replace MG := hide (MG.out.far k)
      replace KK := hide (below_trans KK.out k)
      have AL : Hid (Calls Try.prog 14 #[.slice (some ⟨w27.heap.size, 0, none⟩) 9 9] W28 fun e w' => e = .returned (.bool true) ∧ Below w.heap.size W28 w') := hide (by
        have z1 := Z1.out
        have z2 := Z2.out
        have z3 := Z3.out
        have z4 := Z4.out
        have z5 := Z5.out
        have z6 := Z6.out
        have z7 := Z7.out
        have z8 := Z8.out
        have z9 := Z9.out
        have z10 := Z10.out
        have z11 := Z11.out
        have z12 := Z12.out
        have z13 := Z13.out
        have z14 := Z14.out
        have z15 := Z15.out
        have z16 := Z16.out
        have z17 := Z17.out
        have z18 := Z18.out
        have z19 := Z19.out
        have z20 := Z20.out
        have z21 := Z21.out
        have z22 := Z22.out
        have z23 := Z23.out
        have z24 := Z24.out
        have z25 := Z25.out
        have z26 := Z26.out
        have z27 := Z27.out
        have zk := k.size
        have y1 := LZ.out
        have y2 := LY.out
        have y3 := LN.out
        have y4 := LZ3.out
        have y5 := LN3.out
        have y6 := hcl.out
        refine apartL (L := [⟨.slice pMA Z.length Z.length, Z, w2.heap.size, w3.heap.size, Z.length⟩, ⟨.slice pMB Z.length Z.length, Z, w3.heap.size, w4.heap.size, Z.length⟩, ⟨.slice pMC N.length cMC, N, w4.heap.size, w5.heap.size, cMC⟩, ⟨.slice pMD N.length cMD, N, w5.heap.size, w6.heap.size, cMD⟩, ⟨.slice pME Y.length Y.length, Y, w6.heap.size, w7.heap.size, Y.length⟩, ⟨.slice pMF Z'.length Z'.length, Z', w20.heap.size, w21.heap.size, Z'.length⟩, ⟨.slice pMG N'.length cMG, N', w21.heap.size, w22.heap.size, cMG⟩, ⟨.slice (some ⟨gt, 0, none⟩) xs.length (xs.length + 4), c, w.heap.size, w1.heap.size, xs.length + 4⟩, ⟨.slice (some ⟨gu, 0, none⟩) ys.length (ys.length + 4), ys, w1.heap.size, w2.heap.size, ys.length + 4⟩]) (by simp) ?_ ?_ hgl (by omega)
        · intro e he
          simp only [List.mem_cons, List.not_mem_nil, or_false] at he
          rcases he with rfl | rfl | rfl | rfl | rfl | rfl | rfl | rfl | rfl
          · exact ⟨MA.out, by show w.heap.size ≤ w2.heap.size; omega, by show w3.heap.size ≤ w27.heap.size; omega, .inr (by show Z.length + 4097 ≤ _; omega)⟩
          · exact ⟨MB.out, by show w.heap.size ≤ w3.heap.size; omega, by show w4.heap.size ≤ w27.heap.size; omega, .inr (by show Z.length + 4097 ≤ _; omega)⟩
          · exact ⟨MC.out, by show w.heap.size ≤ w4.heap.size; omega, by show w5.heap.size ≤ w27.heap.size; omega, .inr (by show N.length + 4097 ≤ _; omega)⟩
          · exact ⟨MD.out, by show w.heap.size ≤ w5.heap.size; omega, by show w6.heap.size ≤ w27.heap.size; omega, .inr (by show N.length + 4097 ≤ _; omega)⟩
          · exact ⟨ME.out, by show w.heap.size ≤ w6.heap.size; omega, by show w7.heap.size ≤ w27.heap.size; omega, .inr (by show Y.length + 4097 ≤ _; omega)⟩
          · exact ⟨MF.out, by show w.heap.size ≤ w20.heap.size; omega, by show w21.heap.size ≤ w27.heap.size; omega, .inr (by show Z'.length + 4097 ≤ _; omega)⟩
          · exact ⟨MG.out, by show w.heap.size ≤ w21.heap.size; omega, by show w22.heap.size ≤ w27.heap.size; omega, .inr (by show N'.length + 4097 ≤ _; omega)⟩
          · exact ⟨MT.out, by show w.heap.size ≤ w.heap.size; omega, by show w1.heap.size ≤ w27.heap.size; omega, .inr (by show c.length + 4097 ≤ _; omega)⟩
          · exact ⟨MU.out, by show w.heap.size ≤ w1.heap.size; omega, by show w2.heap.size ≤ w27.heap.size; omega, .inr (by show ys.length + 4097 ≤ _; omega)⟩
        · simp only [List.pairwise_cons, List.mem_cons, List.not_mem_nil, or_false, forall_eq_or_imp, forall_eq, false_implies, implies_true, List.Pairwise.nil, and_true]
          refine ⟨?_, ?_, ?_, ?_, ?_, ?_, ?_, ?_⟩ <;> omega)
      clear hgl k MA MB MC MD ME MF MG MT MU RY
      go_wp2_with fail
      try rw [hW28]
      refine AL.out.mono ?_
      rintro e w29 ⟨rfl, k⟩
      replace KK := hide (KK.out.trans k)
      clear k AL hW28
      go_wp2_with fail
      refine olives.mono ?_
      rintro e w30 ⟨rfl, k⟩
      replace KK := hide (below_trans KK.out k)
      clear k
      go_wp2
      go_ret
      exact ⟨rfl, KK.out⟩

end Go.Proofs.Ytomieeajmelglaa

