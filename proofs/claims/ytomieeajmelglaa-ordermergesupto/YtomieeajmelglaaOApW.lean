/- apart: the walk -/
import Derived.WalkSmall
import Derived.Test.YtomieeajmelglaaOAp
namespace Go.Proofs.Ytomieeajmelglaa
open Go.RowKit Go.Shelf
set_option linter.unusedVariables false
set_option linter.unusedSimpArgs false

set_option maxRecDepth 100000 in
set_option maxHeartbeats 8000000 in
theorem apart_any {w : World} {base m gl : Nat} {v : Nat → Value} {n cp : Nat → Nat} {C0 : Nat → List It} (hm : m ≤ 100) (hR : RW base m v n w C0) (hA : AP m v) (hL : LL gl m v w) (hgl : gl < w.heap.size) (hgn : ∀ j, j < m → (v j).ownBlock ≠ some gl) (hb : base ≤ w.heap.size)
    (hcp : ∀ j, j < m → (v j = .slice none 0 0 ∧ n j = 0 ∧ cp j = 0) ∨ ∃ g, v j = .slice (some ⟨g, 0, none⟩) (n j) (cp j)) (hcb : ∀ j, j < m → cp j + 1 ≤ 8796093022208 ∨ n j + 4097 ≤ 8796093022208) :
    Calls Try.prog 14 #[.slice (some ⟨gl, 0, none⟩) m m] w fun e w' => e = .returned (.bool true) ∧ Below base w w' := by
  have HR := hide hR
  have HA := hide hA
  have HL := hide hL
  have HG := hide hgn
  have HC := hide hcp
  have HN := hide (fun j (hj : j < m) => (show n j ≤ cp j by
    obtain ⟨_, ⟨e1, e2⟩ | ⟨g, cap, cur, e1, _, _, e4, _⟩⟩ := hR j hj
    · omega
    · rcases hcp j hj with ⟨h1, h2, h3⟩ | ⟨g', h1⟩
      · omega
      · rw [h1] at e1
        cases e1
        exact e4))
  have HCB := hide hcb
  have HCM : Hid (∀ j, j < m → cp j ≤ 9223372036854775807) := hide (fun j hj => by
    obtain ⟨_, ⟨e1, e2⟩ | ⟨g, cap, cur, e1, _, _, _, e5, _⟩⟩ := hR j hj
    · rcases hcp j hj with ⟨h1, h2, h3⟩ | ⟨g', h1⟩
      · omega
      · rw [h1] at e1
        cases e1
    · rcases hcp j hj with ⟨h1, h2, h3⟩ | ⟨g', h1⟩
      · omega
      · rw [h1] at e1
        cases e1
        unfold maxLen at e5
        omega)
  have HRS := hide (fun j (hj : j < m) (W : World) (C : Nat → List It) (hW : RW base m v n W C) k (hk : (v j).ownBlock = some k) => (show k < W.heap.size by
    obtain ⟨_, cur, h⟩ := owns_row (hW j hj) hk
    exact (Array.getElem?_eq_some_iff.1 h).1))
  have HSH : Hid (∀ j, j < m → ∃ po pc, v j = .slice po (n j) pc ∧ (0 < n j → ∃ g, po = some ⟨g, 0, none⟩ ∧ base ≤ g)) := hide (fun j hj => by
    obtain ⟨_, ⟨e1, e2⟩ | ⟨g, cap, cur, e1, e3, _⟩⟩ := hR j hj
    · exact ⟨none, 0, by rw [e1, e2], fun e => by omega⟩
    · exact ⟨_, cap, e1, fun _ => ⟨g, rfl, e3⟩⟩)
  clear hR hA hL hgn hcp hcb
  go_enter Try.func14, Try.ntmps14
  go_wp2
  go_loopw [3] (fun p wr => ∃ (i : Nat) (C : Nat → List It), p = .int .i64 i ∧ i ≤ m ∧ Hid (RW base m v n wr C) ∧ Hid (∀ j, j < i → C j = mkd j (n j)) ∧ Hid (LL gl m v wr) ∧ Hid (Below base w wr)) (fun p _ => m - (intOf p).toNat)
  case atStart => exact ⟨0, C0, rfl, by omega, HR, hide (fun j hj => by omega), HL, hide (Below.refl _ _)⟩
  case round =>
    obtain ⟨i, C, rfl, hi, hR, hM, hL, hB⟩ := hrel
    by_cases hil : i < m
    · have q1 : (i : Int) < (m : Int) := by omega
      have wi : IntKind.i64.wrap ((i : Int) + 1) = (i : Int) + 1 := by rw [IntKind.wrap_i64]; omega
      obtain ⟨po, pc, hv, hpo⟩ := HSH.out i hil
      have HPO := hide hpo
      have HV := hide hv
      have NI : Hid (n i ≤ 8796093022208) := hide (by have := HN.out i hil; have := HCB.out i hil; omega)
      clear hv hpo
      go_wp2
      go_loopw [4] (fun p wr => ∃ (k : Nat) (C : Nat → List It), p = .int .i64 k ∧ k ≤ n i ∧ Hid (RW base m v n wr C) ∧ Hid (∀ j, j < i → C j = mkd j (n j)) ∧ Hid (∀ t, t < k → (C i)[t]? = some ((i : Int), 100000 + (t : Int))) ∧ Hid (LL gl m v wr) ∧ Hid (Below base w wr)) (fun p _ => n i - (intOf p).toNat)
      case atStart => exact ⟨0, C, rfl, by omega, hR, hM, hide (fun t ht => by omega), hL, hB⟩
      case round =>
        clear hR hM hL hB
        obtain ⟨k, C, rfl, hk, hR, hM, hT, hL, hB⟩ := hrel
        have cL := hL.out i hil
        rw [HV.out] at cL
        by_cases hkl : k < n i
        · obtain ⟨g, rfl, hgb⟩ := HPO.out (by omega)
          have q2 : (k : Int) < (n i : Int) := by omega
          have wk : IntKind.i64.wrap ((k : Int) + 1) = (k : Int) + 1 := by have := NI.out; rw [IntKind.wrap_i64]; omega
          have wm : IntKind.i64.wrap (100000 + (k : Int)) = (100000 + (k : Int)) := by have := NI.out; rw [IntKind.wrap_i64]; omega
          have hCl := hR.out.len hil
          have hro := hR.out i hil
          rw [HV.out] at hro
          obtain ⟨c1, c2, f1, f2⟩ := owns_cell hro (k := k) (by omega)
          have R2 := hide (hR.out.set HA.out hil HV.out hkl ((i : Int), (100000 + (k : Int))))
          have hgg : gl ≠ g := fun e => HG.out i hil (by rw [HV.out, e]; rfl)
          have L2 := hide (hL.out.set (k := k) hgg (.int .i64 (i : Int)) (.int .i64 (100000 + (k : Int))))
          have B2 := hide (below_set (k := k) hB.out hgb (.int .i64 (i : Int)) (.int .i64 (100000 + (k : Int))))
          clear hro
          go_wp2
          go_roundw
          case rel =>
            refine ⟨k + 1, _, by simp, by omega, R2, hide (fun j hj => ?_), hide (fun t ht => ?_), L2, B2⟩
            · simp only [if_neg (show ¬ j = i by omega)]
              exact hM.out j hj
            · simp only [if_true]
              by_cases htk : t = k
              · subst htk
                rw [List.getElem?_set_self (by omega)]
              · rw [List.getElem?_set_ne (fun e => htk e.symm)]
                exact hT.out t (by omega)
          case measure => simp [intOf]; omega
        · obtain rfl : k = n i := by omega
          have q2 : ∀ x : Nat, ¬ (x : Int) < (x : Int) := fun x => by omega
          have hCi : Hid (C i = mkd i (n i)) := hide (List.ext_getElem? (fun t => by
            by_cases ht : t < n i
            · rw [hT.out t ht, List.getElem?_eq_getElem (by rw [mkd_len]; exact ht), mkd_get]
            · rw [List.getElem?_eq_none (by rw [hR.out.len hil]; omega), List.getElem?_eq_none (by rw [mkd_len]; omega)]))
          go_wp2
          go_roundw
          case rel =>
            refine ⟨i + 1, C, by simp, by omega, hR, hide (fun j hj => ?_), hL, hB⟩
            by_cases hji : j = i
            · subst hji
              exact hCi.out
            · exact hM.out j (by omega)
          case measure => simp [intOf]; omega
    · obtain rfl : i = m := by omega
      have RM : Hid (RW base i v n wr (fun j => mkd j (n j))) := hide (fun j hj => by have := hR.out j hj; rw [hM.out j hj] at this; exact this)
      have q2 : ∀ x : Nat, ¬ (x : Int) < (x : Int) := fun x => by omega
      have HL1 := hL
      have HB1 := hB
      clear hR hM hL hB hil hi
      go_wp2
      go_loopw [5] (fun p wr => ∃ (t : Nat), p = .int .i64 t ∧ t ≤ i ∧ Hid (RW base i v n wr (fun j => mkd j (n j))) ∧ Hid (LL gl i v wr) ∧ Hid (Below base w wr)) (fun p _ => i - (intOf p).toNat)
      case atStart => exact ⟨0, rfl, by omega, RM, HL1, HB1⟩
      case round =>
        clear RM HL1 HB1
        obtain ⟨t, rfl, ht, hR, hL, hB⟩ := hrel
        by_cases htl : t < i
        · have q1 : (t : Int) < (i : Int) := by omega
          have wi : IntKind.i64.wrap ((t : Int) + 1) = (t : Int) + 1 := by rw [IntKind.wrap_i64]; omega
          have cL := hL.out t htl
          obtain ⟨po, hv, hcase⟩ : ∃ po, v t = .slice po (n t) (cp t) ∧ ((po = none ∧ n t = 0 ∧ cp t = 0) ∨ ∃ g, po = some ⟨g, 0, none⟩) := by
            rcases HC.out t htl with ⟨h1, h2, h3⟩ | ⟨g, h1⟩
            · exact ⟨none, by rw [h1, h2, h3], .inl ⟨rfl, h2, h3⟩⟩
            · exact ⟨_, h1, .inr ⟨g, rfl⟩⟩
          rw [hv] at cL
          have hnc := HN.out t htl
          have hcb := HCB.out t htl
          have hcm := HCM.out t htl
          obtain ⟨D, hD⟩ : ∃ D, cp t - n t = D := ⟨_, rfl⟩
          have hDm : D ≤ 9223372036854775807 := by omega
          have HDM := hide hDm
          have wd : IntKind.i64.wrap ((cp t : Int) - (n t : Int)) = (D : Int) := by rw [IntKind.wrap_i64]; omega
          have OW := hide (hR.out t htl)
          rw [hv] at OW
          have S0 : Hid (∀ j, j < i → ∀ k, (v j).ownBlock = some k → k < wr.heap.size) := hide (fun j hj k hk => HRS.out j hj wr _ hR.out k hk)
          have PL0 : Hid (Pla (v t) (n t) wr.heap.size (cp t) 0 (.slice po (n t) (cp t))) := hide (by
            rcases hcase with ⟨h1, _⟩ | ⟨g, h1⟩
            · subst h1; exact .inl rfl
            · subst h1; exact .inr (.inl ⟨g, hv, rfl⟩))
          have bw : Hid (base ≤ wr.heap.size ∧ gl < wr.heap.size) := hide (by have := hB.out.size; omega)
          have HDD := hide hD
          have HNC := hide hnc
          have HCC := hide hcb
          clear hcase hD hnc hcb hcm hDm
          go_wp2
          obtain ⟨s0, hs0⟩ : ∃ s, wr.heap.size = s := ⟨_, rfl⟩
          rw [hs0] at S0 PL0 bw
          have HS0 := hide (Nat.le_of_eq hs0.symm)
          clear hs0 hv cL
          go_loopw [6, 7] (fun vg c wr => ∃ (q : Nat) (ys : List It), c = .int .i64 ((D : Int) - (q : Int)) ∧ q ≤ D + 1 ∧ Hid (q = 0 ∨ D < 4096) ∧ Hid (wr.ownsRow base 27 2 vg (n t + q) (flat (mkd t (n t) ++ ys))) ∧ Hid (Pla (v t) (n t) s0 (cp t) q vg) ∧ Hid (RW base i v n wr (fun j => mkd j (n j))) ∧ Hid (LL gl i v wr) ∧ Hid (Below base w wr) ∧ Hid (s0 ≤ wr.heap.size)) (fun _ c _ => (intOf c + 1).toNat)
          case atStart => exact ⟨0, [], by simp, by omega, hide (.inl rfl), hide (by have := OW.out; simpa using this), PL0, hR, hL, hB, HS0⟩
          case round =>
            clear OW PL0 hR hL hB HS0
            obtain ⟨q, ys, rfl, hq, hqd, hO, hP, hR, hL, hB, hS⟩ := hrel
            by_cases hgo : q ≤ D ∧ D - q < 4096
            · obtain ⟨g1, g2⟩ := hgo
              have d1 : (0 : Int) ≤ (D : Int) - (q : Int) := by omega
              have d2 : (D : Int) - (q : Int) < 4096 := by omega
              have wc : IntKind.i64.wrap ((D : Int) - (q : Int) - 1) = (D : Int) - (q : Int) - 1 := by have := HDM.out; rw [IntKind.wrap_i64]; omega
              have hbn : n t + q + 1 ≤ 8796093022208 := by have := HDD.out; have := HNC.out; have := HCC.out; have := hqd.out; omega
              have HQ2 : Hid (q + 1 = 0 ∨ D < 4096) := hide (by have := hqd.out; omega)
              have HBN := hide hbn
              have NW := hide (fun (W : World) => (show ∀ j u, (flat [((-5 : Int), (t : Int))])[j]? = some u → (W.alloc (.cells #[.int .i64 (-5), .int .i64 (t : Int)] 27)).cell? ((⟨W.heap.size, 0, none⟩ : Addr).add j) = some u from cell_two_new W _ _ _))
              have BA := hide ((bw.out.1))
              obtain ⟨cc, hcc⟩ : ∃ c, (D : Int) - (q : Int) = c := ⟨_, rfl⟩
              have HCQ := hide hcc
              rw [hcc] at d1 d2 wc ⊢
              clear hbn hcc hq
              go_wp2_with (at_builtin; refine wpList_ap1 rfl _ _ rfl base _ (n t + q) _ rfl (hO.out.alloc _) _ _ ((-5 : Int), (t : Int)) rfl (NW.out _) HBN.out (by have := BA.out; have := hS.out; simp; omega) ?_)
              intro v2 w2 own2 pl2
              rw [← flat_append] at own2
              have RW2 : RW base i v n (wr.alloc (.cells #[.int .i64 (-5), .int .i64 (t : Int)] 27)) (fun j => mkd j (n j)) := fun j hj => (hR.out j hj).alloc _
              have LL2 : LL gl i v (wr.alloc (.cells #[.int .i64 (-5), .int .i64 (t : Int)] 27)) := fun j hj => (((Below.refl _ wr).alloc (Nat.le_refl _) _).cell (p := ⟨gl, j, none⟩) (by have := bw.out.2; have := hS.out; show gl < wr.heap.size; omega)).trans (hL.out j hj)
              obtain ⟨s1, s2, s3, s4, s5⟩ := grow_step (y := ((-5 : Int), (t : Int))) RW2 HA.out htl (by have := hS.out; simp; omega) bw.out.1 S0.out LL2 bw.out.2 HG.out (hB.out.alloc (by have := bw.out.1; have := hS.out; omega) _) hP.out own2 (pl2.imp_left (fun h => ⟨h.1, _, h.2, by have := hS.out; omega⟩))
              have T1 := hide s1
              have T2 := hide s2
              have T3 := hide s3
              have T4 := hide s4
              have T5 := hide s5
              rw [List.append_assoc] at own2
              have T6 := hide own2
              clear s1 s2 s3 s4 s5 own2 pl2 RW2 LL2 NW BA HBN
              go_wp2
              go_roundw
              case rel =>
                refine ⟨q + 1, _, ?_, by omega, HQ2, T6, T4, T1, T2, T3, T5⟩
                rw [← HCQ.out]
                congr 1
                omega
              case measure =>
                simp only [intOf]
                omega
            · have hex : Hid (RW base i v n wr (fun j => mkd j (n j)) ∧ LL gl i v wr ∧ Below base w wr) := hide ⟨hR.out, hL.out, hB.out⟩
              by_cases hqd2 : q ≤ D
              · have d1 : (0 : Int) ≤ (D : Int) - (q : Int) := by omega
                have d2 : ¬ (D : Int) - (q : Int) < 4096 := by omega
                obtain ⟨cc, hcc⟩ : ∃ c, (D : Int) - (q : Int) = c := ⟨_, rfl⟩
                rw [hcc] at d1 d2 ⊢
                clear hcc hgo hq hqd2
                go_wp2
                go_roundw
                case rel => exact ⟨t + 1, by simp, by omega, hide hex.out.1, hide hex.out.2.1, hide hex.out.2.2⟩
                case measure => simp [intOf]; omega
              · have d1 : ¬ (0 : Int) ≤ (D : Int) - (q : Int) := by omega
                obtain ⟨cc, hcc⟩ : ∃ c, (D : Int) - (q : Int) = c := ⟨_, rfl⟩
                rw [hcc] at d1 ⊢
                clear hcc hgo hq hqd2
                go_wp2
                go_roundw
                case rel => exact ⟨t + 1, by simp, by omega, hide hex.out.1, hide hex.out.2.1, hide hex.out.2.2⟩
                case measure => simp [intOf]; omega
        · obtain rfl : t = i := by omega
          go_wp2
          go_loopw [8] (fun p wr => ∃ (a : Nat), p = .int .i64 a ∧ a ≤ t ∧ Hid (RW base t v n wr (fun j => mkd j (n j))) ∧ Hid (LL gl t v wr) ∧ Hid (Below base w wr)) (fun p _ => t - (intOf p).toNat)
          case atStart => exact ⟨0, rfl, by omega, hR, hL, hB⟩
          case round =>
            clear hR hL hB ht htl
            obtain ⟨a, rfl, ha, hR, hL, hB⟩ := hrel
            by_cases hal : a < t
            · have q1 : (a : Int) < (t : Int) := by omega
              have wi : IntKind.i64.wrap ((a : Int) + 1) = (a : Int) + 1 := by rw [IntKind.wrap_i64]; omega
              obtain ⟨po, pc, hv, hpo⟩ := HSH.out a hal
              have HPO := hide hpo
              have HV := hide hv
              have NI : Hid (n a ≤ 8796093022208) := hide (by have := HN.out a hal; have := HCB.out a hal; omega)
              clear hv hpo
              go_wp2
              go_loopw [9] (fun p wr => ∃ (k : Nat), p = .int .i64 k ∧ k ≤ n a ∧ Hid (RW base t v n wr (fun j => mkd j (n j))) ∧ Hid (LL gl t v wr) ∧ Hid (Below base w wr)) (fun p _ => n a - (intOf p).toNat)
              case atStart => exact ⟨0, rfl, by omega, hR, hL, hB⟩
              case round =>
                clear hR hL hB
                obtain ⟨k, rfl, hk, hR, hL, hB⟩ := hrel
                have cL := hL.out a hal
                rw [HV.out] at cL
                by_cases hkl : k < n a
                · obtain ⟨g, rfl, hgb⟩ := HPO.out (by omega)
                  have q2 : (k : Int) < (n a : Int) := by omega
                  have wk : IntKind.i64.wrap ((k : Int) + 1) = (k : Int) + 1 := by have := NI.out; rw [IntKind.wrap_i64]; omega
                  have wm : IntKind.i64.wrap (100000 + (k : Int)) = 100000 + (k : Int) := by have := NI.out; rw [IntKind.wrap_i64]; omega
                  have hro := hR.out a hal
                  rw [HV.out] at hro
                  obtain ⟨c1, c2, f1, f2⟩ := owns_cell hro (k := k) (by rw [mkd_len]; exact hkl)
                  rw [mkd_get] at c1 c2
                  simp only at c1 c2
                  clear hro f1 f2
                  go_wp2
                  go_roundw
                  case rel => exact ⟨k + 1, by simp, by omega, hR, hL, hB⟩
                  case measure => simp [intOf]; omega
                · obtain rfl : k = n a := by omega
                  have q2 : ∀ x : Nat, ¬ (x : Int) < (x : Int) := fun x => by omega
                  go_wp2
                  go_roundw
                  case rel => exact ⟨a + 1, by simp, by omega, hR, hL, hB⟩
                  case measure => simp [intOf]; omega
            · obtain rfl : a = t := by omega
              have q3 : ∀ x : Nat, ¬ (x : Int) < (x : Int) := fun x => by omega
              go_wp2
              go_ret
              exact ⟨rfl, hB.out⟩

end Go.Proofs.Ytomieeajmelglaa
