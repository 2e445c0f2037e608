/- ref10 on the document's scanner: stroke -/
import Derived.Test.YtefmlajndillbaaGreatDoorDcI
namespace Go.Proofs.YtefmlajndillbaaGreatDoor
open Go.RowKit
set_option linter.unusedVariables false

theorem dLet_no {c : Int} (h : ∀ j, j < 8 → [34, 92, 47, 98, 102, 110, 114, 116].getD j (0 : Int) ≠ c) : xLet c = -1 := by
  have h0 := h 0 (by omega)
  have h1 := h 1 (by omega)
  have h2 := h 2 (by omega)
  have h3 := h 3 (by omega)
  have h4 := h 4 (by omega)
  have h5 := h 5 (by omega)
  have h6 := h 6 (by omega)
  have h7 := h 7 (by omega)
  simp at h0 h1 h2 h3 h4 h5 h6 h7
  unfold xLet
  rw [if_neg (by omega), if_neg (by omega), if_neg (by omega), if_neg (by omega), if_neg (by omega), if_neg (by omega), if_neg (by omega), if_neg (by omega)]
theorem dcells_one {w : World} {E : TypeId} {x y : Int} {n : Nat} (hn : n = w.heap.size) (hy : y = x) : Cells .u8 (w.alloc (.cells #[.int .u8 y] E)).drew (some ⟨n, 0, none⟩) [x] := by
  subst hn
  subst hy
  intro _
  refine ⟨_, 0, rfl, by simp, fun i hi => ?_⟩
  have h0 : i = 0 := by simp at hi; omega
  subst h0
  exact jcells_one w E .u8 y (by simp) |>.elim fun b h => by
    obtain ⟨off, e, _, hc⟩ := h
    cases e
    exact hc 0 (by simp)
set_option maxRecDepth 100000 in
set_option maxHeartbeats 8000000 in
theorem dstroke {w : World} {B p : Nat} {tv : Value} {es : List Int} {d : Dc} {c : Int} (H : DcS w B p tv es d) (hh : d.h = 0) (h0 : 0 ≤ c) (h1 : c < 256) (hl : es.length + 1 ≤ 140737488355328) : Calls Tryz.prog 63 #[.pointer (some ⟨p, 3, none⟩), .int .u8 c] w (StepOut w B p tv es d .stroke c) := by
  have HS := hide H
  obtain ⟨c3, c4, c5, c6, c7, c8, c9, f3, f4, f5, f6, f7, f8, f9⟩ := df_of H.blk
  have HHH := hide hh
  obtain ⟨ao, L, cap, hform⟩ := own_form H.own
  subst hform
  have H1 := hide (H.lm 1).drew
  have hsm : B ≤ w.heap.size := by have h1 := H.le; have h2 := H.lt; omega
  have HL := hide hl
  have hne : ¬ (p = w.heap.size) := by have := H.lt; omega
  have hne2 : p < w.heap.size := H.lt
  clear H hh hl
  go_enter Tryz.func63, Tryz.ntmps63
  go_wp2_with fail
  go_loopg [7] 8 (fun cnt s7 wr => ∃ k : Nat, k ≤ 8 ∧ s7 = .int .i64 k ∧ cnt = 8 - k ∧ w = wr ∧ Hid (∀ j, j < k → [34, 92, 47, 98, 102, 110, 114, 116].getD j (0 : Int) ≠ c))
  case atStart => exact ⟨0, by omega, rfl, by omega, rfl, hide (fun j hj => by omega)⟩
  case round =>
    obtain ⟨k, hk, rfl, hcnt, rfl, HN⟩ := hrel
    by_cases k8 : k = 8
    · subst k8
      have hx : xLet c = -1 := dLet_no HN.out
      have HX := hide hx
      clear hx
      by_cases hu : c = 117
      · subst hu
        go_wp2
        go_ret
        exact ⟨true, _, es, 3, 4, 0, d.h, d.lo, d.mo, rfl, ((HS.out.lm 3).l 4).n 0, (((Fr.refl _ _ _).setP _).setP _).setP _, Or.inl ⟨rfl, .digs 4 0 0, [], rfl, by simp, rfl, rfl, rfl, HHH.out⟩⟩
      · have hu' : (c == 117) = false := beq_eq_false_iff_ne.2 hu
        go_wp2
        go_ret
        exact ⟨false, _, es, 3, 4, 0, d.h, d.lo, d.mo, rfl, ((HS.out.lm 3).l 4).n 0, (((Fr.refl _ _ _).setP _).setP _).setP _, Or.inr ⟨rfl, by show xStr c = none; unfold xStr; rw [if_neg (by rw [HX.out]; simp), if_neg hu]⟩⟩
    by_cases k0 : k = 0
    · subst k0
      have ix1 : (((({ data := #[34, 92, 47, 98, 102, 110, 114, 116] } : ByteArray)[(0 : Nat)]'(by decide)).toNat : Nat) : Int) = 34 := by rfl
      have ix2 : (((({ data := #[34, 92, 47, 8, 12, 10, 13, 9] } : ByteArray)[(0 : Nat)]'(by decide)).toNat : Nat) : Int) = 34 := by rfl
      by_cases hu : c = 34
      · subst hu
        go_wp2_with fail
        go_region_law ((refine dstep_append rfl (.tmp 26) (.tmp 30) 35 rfl B 5 .u8 1 Tryz.underlying35 Tryz.infoY8 _ es.length es rfl (H1.out.own.alloc _) _ _ _ [34] rfl rfl (dcells_one (by simp) (by rfl)) (by simp) (by unfold maxLen; have := HL.out; simp; omega) (by have := HL.out; simp; omega) (by simp; omega) ?_); intro v' w2 hown' hgrow hsame; obtain ⟨g', cap', rfl⟩ := down_some hown' (by simp); obtain ⟨hG, hF, hK⟩ := dc_grew (us := [34]) H1.out ((Below.refl _ _).alloc (Nat.le_refl _) _) hown' hgrow hsame; obtain ⟨e3, e4, e5, e6, e7, e8, e9, g3, g4, g5, g6, g7, g8, g9⟩ := df_of hK; replace hG := hide hG; replace hF := hide hF; clear hown' hgrow hsame hK)
        all_goals go_wp2
        all_goals go_ret
        all_goals exact ⟨true, _, es ++ [34], 1, d.l, d.n, d.h, d.lo, d.mo, rfl, hG.out, ((((Fr.refl _ _ _).setP _).drew).trans hF.out).setP _, Or.inl ⟨rfl, .inn, [34], rfl, rfl, rfl, HHH.out⟩⟩
      · have hu1 : (34 == c) = false := beq_eq_false_iff_ne.2 (fun e => hu e.symm)
        have HN2 := hide (show ∀ j, j < 0 + 1 → [34, 92, 47, 98, 102, 110, 114, 116].getD j (0 : Int) ≠ c from fun j hj => by
          by_cases e : j = 0
          · subst e; exact fun q => hu q.symm
          · exact HN.out j (by omega))
        go_wp2
        go_roundg (8 - (0 + 1))
        case measure => omega
        case rel => exact ⟨0 + 1, by omega, rfl, rfl, rfl, HN2⟩
    by_cases k1 : k = 1
    · subst k1
      have ix1 : (((({ data := #[34, 92, 47, 98, 102, 110, 114, 116] } : ByteArray)[(1 : Nat)]'(by decide)).toNat : Nat) : Int) = 92 := by rfl
      have ix2 : (((({ data := #[34, 92, 47, 8, 12, 10, 13, 9] } : ByteArray)[(1 : Nat)]'(by decide)).toNat : Nat) : Int) = 92 := by rfl
      by_cases hu : c = 92
      · subst hu
        go_wp2_with fail
        go_region_law ((refine dstep_append rfl (.tmp 26) (.tmp 30) 35 rfl B 5 .u8 1 Tryz.underlying35 Tryz.infoY8 _ es.length es rfl (H1.out.own.alloc _) _ _ _ [92] rfl rfl (dcells_one (by simp) (by rfl)) (by simp) (by unfold maxLen; have := HL.out; simp; omega) (by have := HL.out; simp; omega) (by simp; omega) ?_); intro v' w2 hown' hgrow hsame; obtain ⟨g', cap', rfl⟩ := down_some hown' (by simp); obtain ⟨hG, hF, hK⟩ := dc_grew (us := [92]) H1.out ((Below.refl _ _).alloc (Nat.le_refl _) _) hown' hgrow hsame; obtain ⟨e3, e4, e5, e6, e7, e8, e9, g3, g4, g5, g6, g7, g8, g9⟩ := df_of hK; replace hG := hide hG; replace hF := hide hF; clear hown' hgrow hsame hK)
        all_goals go_wp2
        all_goals go_ret
        all_goals exact ⟨true, _, es ++ [92], 1, d.l, d.n, d.h, d.lo, d.mo, rfl, hG.out, ((((Fr.refl _ _ _).setP _).drew).trans hF.out).setP _, Or.inl ⟨rfl, .inn, [92], rfl, rfl, rfl, HHH.out⟩⟩
      · have hu1 : (92 == c) = false := beq_eq_false_iff_ne.2 (fun e => hu e.symm)
        have HN2 := hide (show ∀ j, j < 1 + 1 → [34, 92, 47, 98, 102, 110, 114, 116].getD j (0 : Int) ≠ c from fun j hj => by
          by_cases e : j = 1
          · subst e; exact fun q => hu q.symm
          · exact HN.out j (by omega))
        go_wp2
        go_roundg (8 - (1 + 1))
        case measure => omega
        case rel => exact ⟨1 + 1, by omega, rfl, rfl, rfl, HN2⟩
    by_cases k2 : k = 2
    · subst k2
      have ix1 : (((({ data := #[34, 92, 47, 98, 102, 110, 114, 116] } : ByteArray)[(2 : Nat)]'(by decide)).toNat : Nat) : Int) = 47 := by rfl
      have ix2 : (((({ data := #[34, 92, 47, 8, 12, 10, 13, 9] } : ByteArray)[(2 : Nat)]'(by decide)).toNat : Nat) : Int) = 47 := by rfl
      by_cases hu : c = 47
      · subst hu
        go_wp2_with fail
        go_region_law ((refine dstep_append rfl (.tmp 26) (.tmp 30) 35 rfl B 5 .u8 1 Tryz.underlying35 Tryz.infoY8 _ es.length es rfl (H1.out.own.alloc _) _ _ _ [47] rfl rfl (dcells_one (by simp) (by rfl)) (by simp) (by unfold maxLen; have := HL.out; simp; omega) (by have := HL.out; simp; omega) (by simp; omega) ?_); intro v' w2 hown' hgrow hsame; obtain ⟨g', cap', rfl⟩ := down_some hown' (by simp); obtain ⟨hG, hF, hK⟩ := dc_grew (us := [47]) H1.out ((Below.refl _ _).alloc (Nat.le_refl _) _) hown' hgrow hsame; obtain ⟨e3, e4, e5, e6, e7, e8, e9, g3, g4, g5, g6, g7, g8, g9⟩ := df_of hK; replace hG := hide hG; replace hF := hide hF; clear hown' hgrow hsame hK)
        all_goals go_wp2
        all_goals go_ret
        all_goals exact ⟨true, _, es ++ [47], 1, d.l, d.n, d.h, d.lo, d.mo, rfl, hG.out, ((((Fr.refl _ _ _).setP _).drew).trans hF.out).setP _, Or.inl ⟨rfl, .inn, [47], rfl, rfl, rfl, HHH.out⟩⟩
      · have hu1 : (47 == c) = false := beq_eq_false_iff_ne.2 (fun e => hu e.symm)
        have HN2 := hide (show ∀ j, j < 2 + 1 → [34, 92, 47, 98, 102, 110, 114, 116].getD j (0 : Int) ≠ c from fun j hj => by
          by_cases e : j = 2
          · subst e; exact fun q => hu q.symm
          · exact HN.out j (by omega))
        go_wp2
        go_roundg (8 - (2 + 1))
        case measure => omega
        case rel => exact ⟨2 + 1, by omega, rfl, rfl, rfl, HN2⟩
    by_cases k3 : k = 3
    · subst k3
      have ix1 : (((({ data := #[34, 92, 47, 98, 102, 110, 114, 116] } : ByteArray)[(3 : Nat)]'(by decide)).toNat : Nat) : Int) = 98 := by rfl
      have ix2 : (((({ data := #[34, 92, 47, 8, 12, 10, 13, 9] } : ByteArray)[(3 : Nat)]'(by decide)).toNat : Nat) : Int) = 8 := by rfl
      by_cases hu : c = 98
      · subst hu
        go_wp2_with fail
        go_region_law ((refine dstep_append rfl (.tmp 26) (.tmp 30) 35 rfl B 5 .u8 1 Tryz.underlying35 Tryz.infoY8 _ es.length es rfl (H1.out.own.alloc _) _ _ _ [8] rfl rfl (dcells_one (by simp) (by rfl)) (by simp) (by unfold maxLen; have := HL.out; simp; omega) (by have := HL.out; simp; omega) (by simp; omega) ?_); intro v' w2 hown' hgrow hsame; obtain ⟨g', cap', rfl⟩ := down_some hown' (by simp); obtain ⟨hG, hF, hK⟩ := dc_grew (us := [8]) H1.out ((Below.refl _ _).alloc (Nat.le_refl _) _) hown' hgrow hsame; obtain ⟨e3, e4, e5, e6, e7, e8, e9, g3, g4, g5, g6, g7, g8, g9⟩ := df_of hK; replace hG := hide hG; replace hF := hide hF; clear hown' hgrow hsame hK)
        all_goals go_wp2
        all_goals go_ret
        all_goals exact ⟨true, _, es ++ [8], 1, d.l, d.n, d.h, d.lo, d.mo, rfl, hG.out, ((((Fr.refl _ _ _).setP _).drew).trans hF.out).setP _, Or.inl ⟨rfl, .inn, [8], rfl, rfl, rfl, HHH.out⟩⟩
      · have hu1 : (98 == c) = false := beq_eq_false_iff_ne.2 (fun e => hu e.symm)
        have HN2 := hide (show ∀ j, j < 3 + 1 → [34, 92, 47, 98, 102, 110, 114, 116].getD j (0 : Int) ≠ c from fun j hj => by
          by_cases e : j = 3
          · subst e; exact fun q => hu q.symm
          · exact HN.out j (by omega))
        go_wp2
        go_roundg (8 - (3 + 1))
        case measure => omega
        case rel => exact ⟨3 + 1, by omega, rfl, rfl, rfl, HN2⟩
    by_cases k4 : k = 4
    · subst k4
      have ix1 : (((({ data := #[34, 92, 47, 98, 102, 110, 114, 116] } : ByteArray)[(4 : Nat)]'(by decide)).toNat : Nat) : Int) = 102 := by rfl
      have ix2 : (((({ data := #[34, 92, 47, 8, 12, 10, 13, 9] } : ByteArray)[(4 : Nat)]'(by decide)).toNat : Nat) : Int) = 12 := by rfl
      by_cases hu : c = 102
      · subst hu
        go_wp2_with fail
        go_region_law ((refine dstep_append rfl (.tmp 26) (.tmp 30) 35 rfl B 5 .u8 1 Tryz.underlying35 Tryz.infoY8 _ es.length es rfl (H1.out.own.alloc _) _ _ _ [12] rfl rfl (dcells_one (by simp) (by rfl)) (by simp) (by unfold maxLen; have := HL.out; simp; omega) (by have := HL.out; simp; omega) (by simp; omega) ?_); intro v' w2 hown' hgrow hsame; obtain ⟨g', cap', rfl⟩ := down_some hown' (by simp); obtain ⟨hG, hF, hK⟩ := dc_grew (us := [12]) H1.out ((Below.refl _ _).alloc (Nat.le_refl _) _) hown' hgrow hsame; obtain ⟨e3, e4, e5, e6, e7, e8, e9, g3, g4, g5, g6, g7, g8, g9⟩ := df_of hK; replace hG := hide hG; replace hF := hide hF; clear hown' hgrow hsame hK)
        all_goals go_wp2
        all_goals go_ret
        all_goals exact ⟨true, _, es ++ [12], 1, d.l, d.n, d.h, d.lo, d.mo, rfl, hG.out, ((((Fr.refl _ _ _).setP _).drew).trans hF.out).setP _, Or.inl ⟨rfl, .inn, [12], rfl, rfl, rfl, HHH.out⟩⟩
      · have hu1 : (102 == c) = false := beq_eq_false_iff_ne.2 (fun e => hu e.symm)
        have HN2 := hide (show ∀ j, j < 4 + 1 → [34, 92, 47, 98, 102, 110, 114, 116].getD j (0 : Int) ≠ c from fun j hj => by
          by_cases e : j = 4
          · subst e; exact fun q => hu q.symm
          · exact HN.out j (by omega))
        go_wp2
        go_roundg (8 - (4 + 1))
        case measure => omega
        case rel => exact ⟨4 + 1, by omega, rfl, rfl, rfl, HN2⟩
    by_cases k5 : k = 5
    · subst k5
      have ix1 : (((({ data := #[34, 92, 47, 98, 102, 110, 114, 116] } : ByteArray)[(5 : Nat)]'(by decide)).toNat : Nat) : Int) = 110 := by rfl
      have ix2 : (((({ data := #[34, 92, 47, 8, 12, 10, 13, 9] } : ByteArray)[(5 : Nat)]'(by decide)).toNat : Nat) : Int) = 10 := by rfl
      by_cases hu : c = 110
      · subst hu
        go_wp2_with fail
        go_region_law ((refine dstep_append rfl (.tmp 26) (.tmp 30) 35 rfl B 5 .u8 1 Tryz.underlying35 Tryz.infoY8 _ es.length es rfl (H1.out.own.alloc _) _ _ _ [10] rfl rfl (dcells_one (by simp) (by rfl)) (by simp) (by unfold maxLen; have := HL.out; simp; omega) (by have := HL.out; simp; omega) (by simp; omega) ?_); intro v' w2 hown' hgrow hsame; obtain ⟨g', cap', rfl⟩ := down_some hown' (by simp); obtain ⟨hG, hF, hK⟩ := dc_grew (us := [10]) H1.out ((Below.refl _ _).alloc (Nat.le_refl _) _) hown' hgrow hsame; obtain ⟨e3, e4, e5, e6, e7, e8, e9, g3, g4, g5, g6, g7, g8, g9⟩ := df_of hK; replace hG := hide hG; replace hF := hide hF; clear hown' hgrow hsame hK)
        all_goals go_wp2
        all_goals go_ret
        all_goals exact ⟨true, _, es ++ [10], 1, d.l, d.n, d.h, d.lo, d.mo, rfl, hG.out, ((((Fr.refl _ _ _).setP _).drew).trans hF.out).setP _, Or.inl ⟨rfl, .inn, [10], rfl, rfl, rfl, HHH.out⟩⟩
      · have hu1 : (110 == c) = false := beq_eq_false_iff_ne.2 (fun e => hu e.symm)
        have HN2 := hide (show ∀ j, j < 5 + 1 → [34, 92, 47, 98, 102, 110, 114, 116].getD j (0 : Int) ≠ c from fun j hj => by
          by_cases e : j = 5
          · subst e; exact fun q => hu q.symm
          · exact HN.out j (by omega))
        go_wp2
        go_roundg (8 - (5 + 1))
        case measure => omega
        case rel => exact ⟨5 + 1, by omega, rfl, rfl, rfl, HN2⟩
    by_cases k6 : k = 6
    · subst k6
      have ix1 : (((({ data := #[34, 92, 47, 98, 102, 110, 114, 116] } : ByteArray)[(6 : Nat)]'(by decide)).toNat : Nat) : Int) = 114 := by rfl
      have ix2 : (((({ data := #[34, 92, 47, 8, 12, 10, 13, 9] } : ByteArray)[(6 : Nat)]'(by decide)).toNat : Nat) : Int) = 13 := by rfl
      by_cases hu : c = 114
      · subst hu
        go_wp2_with fail
        go_region_law ((refine dstep_append rfl (.tmp 26) (.tmp 30) 35 rfl B 5 .u8 1 Tryz.underlying35 Tryz.infoY8 _ es.length es rfl (H1.out.own.alloc _) _ _ _ [13] rfl rfl (dcells_one (by simp) (by rfl)) (by simp) (by unfold maxLen; have := HL.out; simp; omega) (by have := HL.out; simp; omega) (by simp; omega) ?_); intro v' w2 hown' hgrow hsame; obtain ⟨g', cap', rfl⟩ := down_some hown' (by simp); obtain ⟨hG, hF, hK⟩ := dc_grew (us := [13]) H1.out ((Below.refl _ _).alloc (Nat.le_refl _) _) hown' hgrow hsame; obtain ⟨e3, e4, e5, e6, e7, e8, e9, g3, g4, g5, g6, g7, g8, g9⟩ := df_of hK; replace hG := hide hG; replace hF := hide hF; clear hown' hgrow hsame hK)
        all_goals go_wp2
        all_goals go_ret
        all_goals exact ⟨true, _, es ++ [13], 1, d.l, d.n, d.h, d.lo, d.mo, rfl, hG.out, ((((Fr.refl _ _ _).setP _).drew).trans hF.out).setP _, Or.inl ⟨rfl, .inn, [13], rfl, rfl, rfl, HHH.out⟩⟩
      · have hu1 : (114 == c) = false := beq_eq_false_iff_ne.2 (fun e => hu e.symm)
        have HN2 := hide (show ∀ j, j < 6 + 1 → [34, 92, 47, 98, 102, 110, 114, 116].getD j (0 : Int) ≠ c from fun j hj => by
          by_cases e : j = 6
          · subst e; exact fun q => hu q.symm
          · exact HN.out j (by omega))
        go_wp2
        go_roundg (8 - (6 + 1))
        case measure => omega
        case rel => exact ⟨6 + 1, by omega, rfl, rfl, rfl, HN2⟩
    by_cases k7 : k = 7
    · subst k7
      have ix1 : (((({ data := #[34, 92, 47, 98, 102, 110, 114, 116] } : ByteArray)[(7 : Nat)]'(by decide)).toNat : Nat) : Int) = 116 := by rfl
      have ix2 : (((({ data := #[34, 92, 47, 8, 12, 10, 13, 9] } : ByteArray)[(7 : Nat)]'(by decide)).toNat : Nat) : Int) = 9 := by rfl
      by_cases hu : c = 116
      · subst hu
        go_wp2_with fail
        go_region_law ((refine dstep_append rfl (.tmp 26) (.tmp 30) 35 rfl B 5 .u8 1 Tryz.underlying35 Tryz.infoY8 _ es.length es rfl (H1.out.own.alloc _) _ _ _ [9] rfl rfl (dcells_one (by simp) (by rfl)) (by simp) (by unfold maxLen; have := HL.out; simp; omega) (by have := HL.out; simp; omega) (by simp; omega) ?_); intro v' w2 hown' hgrow hsame; obtain ⟨g', cap', rfl⟩ := down_some hown' (by simp); obtain ⟨hG, hF, hK⟩ := dc_grew (us := [9]) H1.out ((Below.refl _ _).alloc (Nat.le_refl _) _) hown' hgrow hsame; obtain ⟨e3, e4, e5, e6, e7, e8, e9, g3, g4, g5, g6, g7, g8, g9⟩ := df_of hK; replace hG := hide hG; replace hF := hide hF; clear hown' hgrow hsame hK)
        all_goals go_wp2
        all_goals go_ret
        all_goals exact ⟨true, _, es ++ [9], 1, d.l, d.n, d.h, d.lo, d.mo, rfl, hG.out, ((((Fr.refl _ _ _).setP _).drew).trans hF.out).setP _, Or.inl ⟨rfl, .inn, [9], rfl, rfl, rfl, HHH.out⟩⟩
      · have hu1 : (116 == c) = false := beq_eq_false_iff_ne.2 (fun e => hu e.symm)
        have HN2 := hide (show ∀ j, j < 7 + 1 → [34, 92, 47, 98, 102, 110, 114, 116].getD j (0 : Int) ≠ c from fun j hj => by
          by_cases e : j = 7
          · subst e; exact fun q => hu q.symm
          · exact HN.out j (by omega))
        go_wp2
        go_roundg (8 - (7 + 1))
        case measure => omega
        case rel => exact ⟨7 + 1, by omega, rfl, rfl, rfl, HN2⟩
    exact absurd hk (by omega)


end Go.Proofs.YtefmlajndillbaaGreatDoor
