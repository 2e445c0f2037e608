/- OApW, OMine, OOdC, OOdI, OOdW -/
import Derived.WalkSmall
import Derived.Test.YtomieeajmelglaaQ07
namespace Go.Proofs.Ytomieeajmelglaa
open Go.RowKit Go.Shelf
set_option linter.unusedVariables false
set_option linter.unusedSimpArgs false

set_option maxRecDepth 100000 in
set_option maxHeartbeats 8000000 in
theorem apart_any {w : World} {base m gl : Nat} {v : Nat → Value} {n cp : Nat → Nat} {C0 : Nat → List It} (hm : m ≤ 100) (hR : RW base m v n w C0) (hA : AP m v) (hL : LL gl m v w) (hgl : gl < w.heap.size) (hgn : ∀ j, j < m → (v j).ownBlock ≠ some gl) (hb : base ≤ w.heap.size)
    (hcp : ∀ j, j < m → (v j = .slice none 0 0 ∧ n j = 0 ∧ cp j = 0) ∨ ∃ g, v j = .slice (some ⟨g, 0, none⟩) (n j) (cp j)) (hcb : ∀ j, j < m → cp j + 1 ≤ 8796093022208 ∨ n j + 4097 ≤ 8796093022208) :
    Calls Try.prog 14 #[.slice (some ⟨gl, 0, none⟩) m m] w fun e w' => e = .returned (.bool true) ∧ Below base w w' := by
  have HR := hide hR
  have HA := hide hA
  have HL := hide hL
  have HG := hide hgn
  have HC := hide hcp
  have HN := hide (fun j (hj : j < m) => (show n j ≤ cp j by
    obtain ⟨_, ⟨e1, e2⟩ | ⟨g, cap, cur, e1, _, _, e4, _⟩⟩ := hR j hj
    · omega
    · rcases hcp j hj with ⟨h1, h2, h3⟩ | ⟨g', h1⟩
      · omega
      · rw [h1] at e1
        cases e1
        exact e4))
  have HCB := hide hcb
  have HCM : Hid (∀ j, j < m → cp j ≤ 9223372036854775807) := hide (fun j hj => by
    obtain ⟨_, ⟨e1, e2⟩ | ⟨g, cap, cur, e1, _, _, _, e5, _⟩⟩ := hR j hj
    · rcases hcp j hj with ⟨h1, h2, h3⟩ | ⟨g', h1⟩
      · omega
      · rw [h1] at e1
        cases e1
    · rcases hcp j hj with ⟨h1, h2, h3⟩ | ⟨g', h1⟩
      · omega
      · rw [h1] at e1
        cases e1
        unfold maxLen at e5
        omega)
  have HRS := hide (fun j (hj : j < m) (W : World) (C : Nat → List It) (hW : RW base m v n W C) k (hk : (v j).ownBlock = some k) => (show k < W.heap.size by
    obtain ⟨_, cur, h⟩ := owns_row (hW j hj) hk
    exact (Array.getElem?_eq_some_iff.1 h).1))
  have HSH : Hid (∀ j, j < m → ∃ po pc, v j = .slice po (n j) pc ∧ (0 < n j → ∃ g, po = some ⟨g, 0, none⟩ ∧ base ≤ g)) := hide (fun j hj => by
    obtain ⟨_, ⟨e1, e2⟩ | ⟨g, cap, cur, e1, e3, _⟩⟩ := hR j hj
    · exact ⟨none, 0, by rw [e1, e2], fun e => by omega⟩
    · exact ⟨_, cap, e1, fun _ => ⟨g, rfl, e3⟩⟩)
  clear hR hA hL hgn hcp hcb
  go_enter Try.func14, Try.ntmps14
  go_wp2
  go_loopw [3] (fun p wr => ∃ (i : Nat) (C : Nat → List It), p = .int .i64 i ∧ i ≤ m ∧ Hid (RW base m v n wr C) ∧ Hid (∀ j, j < i → C j = mkd j (n j)) ∧ Hid (LL gl m v wr) ∧ Hid (Below base w wr)) (fun p _ => m - (intOf p).toNat)
  case atStart => exact ⟨0, C0, rfl, by omega, HR, hide (fun j hj => by omega), HL, hide (Below.refl _ _)⟩
  case round =>
    obtain ⟨i, C, rfl, hi, hR, hM, hL, hB⟩ := hrel
    by_cases hil : i < m
    · have q1 : (i : Int) < (m : Int) := by omega
      have wi : IntKind.i64.wrap ((i : Int) + 1) = (i : Int) + 1 := by rw [IntKind.wrap_i64]; omega
      obtain ⟨po, pc, hv, hpo⟩ := HSH.out i hil
      have HPO := hide hpo
      have HV := hide hv
      have NI : Hid (n i ≤ 8796093022208) := hide (by have := HN.out i hil; have := HCB.out i hil; omega)
      clear hv hpo
      go_wp2
      go_loopw [4] (fun p wr => ∃ (k : Nat) (C : Nat → List It), p = .int .i64 k ∧ k ≤ n i ∧ Hid (RW base m v n wr C) ∧ Hid (∀ j, j < i → C j = mkd j (n j)) ∧ Hid (∀ t, t < k → (C i)[t]? = some ((i : Int), 100000 + (t : Int))) ∧ Hid (LL gl m v wr) ∧ Hid (Below base w wr)) (fun p _ => n i - (intOf p).toNat)
      case atStart => exact ⟨0, C, rfl, by omega, hR, hM, hide (fun t ht => by omega), hL, hB⟩
      case round =>
        clear hR hM hL hB
        obtain ⟨k, C, rfl, hk, hR, hM, hT, hL, hB⟩ := hrel
        have cL := hL.out i hil
        rw [HV.out] at cL
        by_cases hkl : k < n i
        · obtain ⟨g, rfl, hgb⟩ := HPO.out (by omega)
          have q2 : (k : Int) < (n i : Int) := by omega
          have wk : IntKind.i64.wrap ((k : Int) + 1) = (k : Int) + 1 := by have := NI.out; rw [IntKind.wrap_i64]; omega
          have wm : IntKind.i64.wrap (100000 + (k : Int)) = (100000 + (k : Int)) := by have := NI.out; rw [IntKind.wrap_i64]; omega
          have hCl := hR.out.len hil
          have hro := hR.out i hil
          rw [HV.out] at hro
          obtain ⟨c1, c2, f1, f2⟩ := owns_cell hro (k := k) (by omega)
          have R2 := hide (hR.out.set HA.out hil HV.out hkl ((i : Int), (100000 + (k : Int))))
          have hgg : gl ≠ g := fun e => HG.out i hil (by rw [HV.out, e]; rfl)
          have L2 := hide (hL.out.set (k := k) hgg (.int .i64 (i : Int)) (.int .i64 (100000 + (k : Int))))
          have B2 := hide (below_set (k := k) hB.out hgb (.int .i64 (i : Int)) (.int .i64 (100000 + (k : Int))))
          clear hro
          go_wp2
          go_roundw
          case rel =>
            refine ⟨k + 1, _, by simp, by omega, R2, hide (fun j hj => ?_), hide (fun t ht => ?_), L2, B2⟩
            · simp only [if_neg (show ¬ j = i by omega)]
              exact hM.out j hj
            · simp only [if_true]
              by_cases htk : t = k
              · subst htk
                rw [List.getElem?_set_self (by omega)]
              · rw [List.getElem?_set_ne (fun e => htk e.symm)]
                exact hT.out t (by omega)
          case measure => simp [intOf]; omega
        · obtain rfl : k = n i := by omega
          have q2 : ∀ x : Nat, ¬ (x : Int) < (x : Int) := fun x => by omega
          have hCi : Hid (C i = mkd i (n i)) := hide (List.ext_getElem? (fun t => by
            by_cases ht : t < n i
            · rw [hT.out t ht, List.getElem?_eq_getElem (by rw [mkd_len]; exact ht), mkd_get]
            · rw [List.getElem?_eq_none (by rw [hR.out.len hil]; omega), List.getElem?_eq_none (by rw [mkd_len]; omega)]))
          go_wp2
          go_roundw
          case rel =>
            refine ⟨i + 1, C, by simp, by omega, hR, hide (fun j hj => ?_), hL, hB⟩
            by_cases hji : j = i
            · subst hji
              exact hCi.out
            · exact hM.out j (by omega)
          case measure => simp [intOf]; omega
    · obtain rfl : i = m := by omega
      have RM : Hid (RW base i v n wr (fun j => mkd j (n j))) := hide (fun j hj => by have := hR.out j hj; rw [hM.out j hj] at this; exact this)
      have q2 : ∀ x : Nat, ¬ (x : Int) < (x : Int) := fun x => by omega
      have HL1 := hL
      have HB1 := hB
      clear hR hM hL hB hil hi
      go_wp2
      go_loopw [5] (fun p wr => ∃ (t : Nat), p = .int .i64 t ∧ t ≤ i ∧ Hid (RW base i v n wr (fun j => mkd j (n j))) ∧ Hid (LL gl i v wr) ∧ Hid (Below base w wr)) (fun p _ => i - (intOf p).toNat)
      case atStart => exact ⟨0, rfl, by omega, RM, HL1, HB1⟩
      case round =>
        clear RM HL1 HB1
        obtain ⟨t, rfl, ht, hR, hL, hB⟩ := hrel
        by_cases htl : t < i
        · have q1 : (t : Int) < (i : Int) := by omega
          have wi : IntKind.i64.wrap ((t : Int) + 1) = (t : Int) + 1 := by rw [IntKind.wrap_i64]; omega
          have cL := hL.out t htl
          obtain ⟨po, hv, hcase⟩ : ∃ po, v t = .slice po (n t) (cp t) ∧ ((po = none ∧ n t = 0 ∧ cp t = 0) ∨ ∃ g, po = some ⟨g, 0, none⟩) := by
            rcases HC.out t htl with ⟨h1, h2, h3⟩ | ⟨g, h1⟩
            · exact ⟨none, by rw [h1, h2, h3], .inl ⟨rfl, h2, h3⟩⟩
            · exact ⟨_, h1, .inr ⟨g, rfl⟩⟩
          rw [hv] at cL
          have hnc := HN.out t htl
          have hcb := HCB.out t htl
          have hcm := HCM.out t htl
          obtain ⟨D, hD⟩ : ∃ D, cp t - n t = D := ⟨_, rfl⟩
          have hDm : D ≤ 9223372036854775807 := by omega
          have HDM := hide hDm
          have wd : IntKind.i64.wrap ((cp t : Int) - (n t : Int)) = (D : Int) := by rw [IntKind.wrap_i64]; omega
          have OW := hide (hR.out t htl)
          rw [hv] at OW
          have S0 : Hid (∀ j, j < i → ∀ k, (v j).ownBlock = some k → k < wr.heap.size) := hide (fun j hj k hk => HRS.out j hj wr _ hR.out k hk)
          have PL0 : Hid (Pla (v t) (n t) wr.heap.size (cp t) 0 (.slice po (n t) (cp t))) := hide (by
            rcases hcase with ⟨h1, _⟩ | ⟨g, h1⟩
            · subst h1; exact .inl rfl
            · subst h1; exact .inr (.inl ⟨g, hv, rfl⟩))
          have bw : Hid (base ≤ wr.heap.size ∧ gl < wr.heap.size) := hide (by have := hB.out.size; omega)
          have HDD := hide hD
          have HNC := hide hnc
          have HCC := hide hcb
          clear hcase hD hnc hcb hcm hDm
          go_wp2
          obtain ⟨s0, hs0⟩ : ∃ s, wr.heap.size = s := ⟨_, rfl⟩
          rw [hs0] at S0 PL0 bw
          have HS0 := hide (Nat.le_of_eq hs0.symm)
          clear hs0 hv cL
          go_loopw [6, 7] (fun vg c wr => ∃ (q : Nat) (ys : List It), c = .int .i64 ((D : Int) - (q : Int)) ∧ q ≤ D + 1 ∧ Hid (q = 0 ∨ D < 4096) ∧ Hid (wr.ownsRow base 27 2 vg (n t + q) (flat (mkd t (n t) ++ ys))) ∧ Hid (Pla (v t) (n t) s0 (cp t) q vg) ∧ Hid (RW base i v n wr (fun j => mkd j (n j))) ∧ Hid (LL gl i v wr) ∧ Hid (Below base w wr) ∧ Hid (s0 ≤ wr.heap.size)) (fun _ c _ => (intOf c + 1).toNat)
          case atStart => exact ⟨0, [], by simp, by omega, hide (.inl rfl), hide (by have := OW.out; simpa using this), PL0, hR, hL, hB, HS0⟩
          case round =>
            clear OW PL0 hR hL hB HS0
            obtain ⟨q, ys, rfl, hq, hqd, hO, hP, hR, hL, hB, hS⟩ := hrel
            by_cases hgo : q ≤ D ∧ D - q < 4096
            · obtain ⟨g1, g2⟩ := hgo
              have d1 : (0 : Int) ≤ (D : Int) - (q : Int) := by omega
              have d2 : (D : Int) - (q : Int) < 4096 := by omega
              have wc : IntKind.i64.wrap ((D : Int) - (q : Int) - 1) = (D : Int) - (q : Int) - 1 := by have := HDM.out; rw [IntKind.wrap_i64]; omega
              have hbn : n t + q + 1 ≤ 8796093022208 := by have := HDD.out; have := HNC.out; have := HCC.out; have := hqd.out; omega
              have HQ2 : Hid (q + 1 = 0 ∨ D < 4096) := hide (by have := hqd.out; omega)
              have HBN := hide hbn
              have NW := hide (fun (W : World) => (show ∀ j u, (flat [((-5 : Int), (t : Int))])[j]? = some u → (W.alloc (.cells #[.int .i64 (-5), .int .i64 (t : Int)] 27)).cell? ((⟨W.heap.size, 0, none⟩ : Addr).add j) = some u from cell_two_new W _ _ _))
              have BA := hide ((bw.out.1))
              obtain ⟨cc, hcc⟩ : ∃ c, (D : Int) - (q : Int) = c := ⟨_, rfl⟩
              have HCQ := hide hcc
              rw [hcc] at d1 d2 wc ⊢
              clear hbn hcc hq
              go_wp2_with (at_builtin; refine wpList_ap1 rfl _ _ rfl base _ (n t + q) _ rfl (hO.out.alloc _) _ _ ((-5 : Int), (t : Int)) rfl (NW.out _) HBN.out (by have := BA.out; have := hS.out; simp; omega) ?_)
              intro v2 w2 own2 pl2
              rw [← flat_append] at own2
              have RW2 : RW base i v n (wr.alloc (.cells #[.int .i64 (-5), .int .i64 (t : Int)] 27)) (fun j => mkd j (n j)) := fun j hj => (hR.out j hj).alloc _
              have LL2 : LL gl i v (wr.alloc (.cells #[.int .i64 (-5), .int .i64 (t : Int)] 27)) := fun j hj => (((Below.refl _ wr).alloc (Nat.le_refl _) _).cell (p := ⟨gl, j, none⟩) (by have := bw.out.2; have := hS.out; show gl < wr.heap.size; omega)).trans (hL.out j hj)
              obtain ⟨s1, s2, s3, s4, s5⟩ := grow_step (y := ((-5 : Int), (t : Int))) RW2 HA.out htl (by have := hS.out; simp; omega) bw.out.1 S0.out LL2 bw.out.2 HG.out (hB.out.alloc (by have := bw.out.1; have := hS.out; omega) _) hP.out own2 (pl2.imp_left (fun h => ⟨h.1, _, h.2, by have := hS.out; omega⟩))
              have T1 := hide s1
              have T2 := hide s2
              have T3 := hide s3
              have T4 := hide s4
              have T5 := hide s5
              rw [List.append_assoc] at own2
              have T6 := hide own2
              clear s1 s2 s3 s4 s5 own2 pl2 RW2 LL2 NW BA HBN
              go_wp2
              go_roundw
              case rel =>
                refine ⟨q + 1, _, ?_, by omega, HQ2, T6, T4, T1, T2, T3, T5⟩
                rw [← HCQ.out]
                congr 1
                omega
              case measure =>
                simp only [intOf]
                omega
            · have hex : Hid (RW base i v n wr (fun j => mkd j (n j)) ∧ LL gl i v wr ∧ Below base w wr) := hide ⟨hR.out, hL.out, hB.out⟩
              by_cases hqd2 : q ≤ D
              · have d1 : (0 : Int) ≤ (D : Int) - (q : Int) := by omega
                have d2 : ¬ (D : Int) - (q : Int) < 4096 := by omega
                obtain ⟨cc, hcc⟩ : ∃ c, (D : Int) - (q : Int) = c := ⟨_, rfl⟩
                rw [hcc] at d1 d2 ⊢
                clear hcc hgo hq hqd2
                go_wp2
                go_roundw
                case rel => exact ⟨t + 1, by simp, by omega, hide hex.out.1, hide hex.out.2.1, hide hex.out.2.2⟩
                case measure => simp [intOf]; omega
              · have d1 : ¬ (0 : Int) ≤ (D : Int) - (q : Int) := by omega
                obtain ⟨cc, hcc⟩ : ∃ c, (D : Int) - (q : Int) = c := ⟨_, rfl⟩
                rw [hcc] at d1 ⊢
                clear hcc hgo hq hqd2
                go_wp2
                go_roundw
                case rel => exact ⟨t + 1, by simp, by omega, hide hex.out.1, hide hex.out.2.1, hide hex.out.2.2⟩
                case measure => simp [intOf]; omega
        · obtain rfl : t = i := by omega
          go_wp2
          go_loopw [8] (fun p wr => ∃ (a : Nat), p = .int .i64 a ∧ a ≤ t ∧ Hid (RW base t v n wr (fun j => mkd j (n j))) ∧ Hid (LL gl t v wr) ∧ Hid (Below base w wr)) (fun p _ => t - (intOf p).toNat)
          case atStart => exact ⟨0, rfl, by omega, hR, hL, hB⟩
          case round =>
            clear hR hL hB ht htl
            obtain ⟨a, rfl, ha, hR, hL, hB⟩ := hrel
            by_cases hal : a < t
            · have q1 : (a : Int) < (t : Int) := by omega
              have wi : IntKind.i64.wrap ((a : Int) + 1) = (a : Int) + 1 := by rw [IntKind.wrap_i64]; omega
              obtain ⟨po, pc, hv, hpo⟩ := HSH.out a hal
              have HPO := hide hpo
              have HV := hide hv
              have NI : Hid (n a ≤ 8796093022208) := hide (by have := HN.out a hal; have := HCB.out a hal; omega)
              clear hv hpo
              go_wp2
              go_loopw [9] (fun p wr => ∃ (k : Nat), p = .int .i64 k ∧ k ≤ n a ∧ Hid (RW base t v n wr (fun j => mkd j (n j))) ∧ Hid (LL gl t v wr) ∧ Hid (Below base w wr)) (fun p _ => n a - (intOf p).toNat)
              case atStart => exact ⟨0, rfl, by omega, hR, hL, hB⟩
              case round =>
                clear hR hL hB
                obtain ⟨k, rfl, hk, hR, hL, hB⟩ := hrel
                have cL := hL.out a hal
                rw [HV.out] at cL
                by_cases hkl : k < n a
                · obtain ⟨g, rfl, hgb⟩ := HPO.out (by omega)
                  have q2 : (k : Int) < (n a : Int) := by omega
                  have wk : IntKind.i64.wrap ((k : Int) + 1) = (k : Int) + 1 := by have := NI.out; rw [IntKind.wrap_i64]; omega
                  have wm : IntKind.i64.wrap (100000 + (k : Int)) = 100000 + (k : Int) := by have := NI.out; rw [IntKind.wrap_i64]; omega
                  have hro := hR.out a hal
                  rw [HV.out] at hro
                  obtain ⟨c1, c2, f1, f2⟩ := owns_cell hro (k := k) (by rw [mkd_len]; exact hkl)
                  rw [mkd_get] at c1 c2
                  simp only at c1 c2
                  clear hro f1 f2
                  go_wp2
                  go_roundw
                  case rel => exact ⟨k + 1, by simp, by omega, hR, hL, hB⟩
                  case measure => simp [intOf]; omega
                · obtain rfl : k = n a := by omega
                  have q2 : ∀ x : Nat, ¬ (x : Int) < (x : Int) := fun x => by omega
                  go_wp2
                  go_roundw
                  case rel => exact ⟨a + 1, by simp, by omega, hR, hL, hB⟩
                  case measure => simp [intOf]; omega
            · obtain rfl : a = t := by omega
              have q3 : ∀ x : Nat, ¬ (x : Int) < (x : Int) := fun x => by omega
              go_wp2
              go_ret
              exact ⟨rfl, hB.out⟩

end Go.Proofs.Ytomieeajmelglaa

namespace Go.Proofs.Ytomieeajmelglaa
open Go.RowKit Go.Shelf
set_option linter.unusedVariables false
set_option linter.unusedSimpArgs false

/-- a list of one's own in a block from lo on and below hi, with its capacity -/
structure Mine (lo hi cp : Nat) (W : World) (v : Value) (l : List It) : Prop where
  own : W.ownsRow lo 27 2 v l.length (flat l)
  at_ : ∀ k, v.ownBlock = some k → lo ≤ k ∧ k < hi
  shape : (v = .slice none 0 0 ∧ l.length = 0 ∧ cp = 0) ∨ ∃ g, v = .slice (some ⟨g, 0, none⟩) l.length cp
theorem Mine.of_own {B : Nat} {w : World} {v : Value} {l : List It} (h : Own12 B w v l) : Mine B w.heap.size l.length w v l := by
  rcases h with ⟨rfl, rfl⟩ | ⟨g, rfl, hB, hr, hm⟩
  · exact ⟨by simpa [flat] using World.ownsRow_nil _ _ _ _, fun k hk => (by cases hk), .inl ⟨rfl, rfl, rfl⟩⟩
  · refine ⟨⟨flat_len l, .inr ⟨g, _, _, rfl, hB, hr, Nat.le_refl _, hm, by simp [flat_len], ?_⟩⟩, fun k hk => ?_, .inr ⟨g, rfl⟩⟩
    · rw [List.toList_toArray, ← flat_len l, List.take_length]
    · cases hk
      exact ⟨hB, hr.lt⟩
theorem Mine.of_lent {B : Nat} {w : World} {g cap : Nat} {l : List It} (h : Lent B w g cap l) : Mine B w.heap.size cap w (.slice (some ⟨g, 0, none⟩) l.length cap) l := by
  have hh := h.itin
  refine ⟨owns_pre h, fun k hk => ?_, .inr ⟨g, rfl⟩⟩
  cases hk
  exact ⟨hh.1, hh.2.1⟩
theorem Mine.of_row {B n : Nat} {w : World} {v : Value} {l : List It} (h : w.ownsRow B 27 2 v n (flat l)) : ∃ cp, Mine B w.heap.size cp w v l := by
  have hn : n = l.length := by have := h.1; rw [flat_len] at this; omega
  subst hn
  have h' := h
  obtain ⟨h0, ⟨rfl, h1⟩ | ⟨g, cap, cur, rfl, h2, h3, h4⟩⟩ := h'
  · exact ⟨0, h, fun k hk => (by cases hk), .inl ⟨rfl, h1, rfl⟩⟩
  · refine ⟨cap, h, fun k hk => ?_, .inr ⟨g, rfl⟩⟩
    cases hk
    exact ⟨h2, (Array.getElem?_eq_some_iff.1 h3).1⟩
theorem Mine.far {lo hi cp : Nat} {w w' : World} {v : Value} {l : List It} (h : Mine lo hi cp w v l) (hb : Below w.heap.size w w') : Mine lo hi cp w' v l := by
  refine ⟨?_, h.at_, h.shape⟩
  obtain ⟨h0, h1 | ⟨g, cap, cur, h1, h2, h3, h4⟩⟩ := h.own
  · exact ⟨h0, .inl h1⟩
  · exact ⟨h0, .inr ⟨g, cap, cur, h1, h2, (hb.block g (Array.getElem?_eq_some_iff.1 h3).1).trans h3, h4⟩⟩
theorem Mine.belx {lo hi cp gt : Nat} {w w' : World} {v : Value} {l : List It} (h : Mine lo hi cp w v l) (hb : BelX (fun k => k = gt) w.heap.size w w') (hg : gt < lo ∨ hi ≤ gt) : Mine lo hi cp w' v l := by
  refine ⟨?_, h.at_, h.shape⟩
  have ha := h.at_
  obtain ⟨h0, h1 | ⟨g, cap, cur, rfl, h2, h3, h4⟩⟩ := h.own
  · exact ⟨h0, .inl h1⟩
  · have := ha g rfl
    exact ⟨h0, .inr ⟨g, cap, cur, rfl, h2, (hb.block g (Array.getElem?_eq_some_iff.1 h3).1 (by omega)).trans h3, h4⟩⟩
theorem Mine.rd {lo hi cp : Nat} {w : World} {v : Value} {l : List It} (h : Mine lo hi cp w v l) : ItRd (fun _ => True) w v l := by
  obtain ⟨h0, ⟨rfl, h1⟩ | ⟨g, cap, cur, rfl, h2, h3, h4, h5, h6, h7⟩⟩ := h.own
  · exact nil_rd rfl (List.eq_nil_of_length_eq_zero h1) (by unfold maxLen; omega)
  · refine ⟨_, cap, rfl, h4, h5, fun hp => ⟨g, 0, rfl, trivial, (Array.getElem?_eq_some_iff.1 h3).1, fun i hi => ?_⟩⟩
    obtain ⟨a1, a2, _, _⟩ := owns_cell h.own hi
    simp only [Nat.zero_add]
    exact ⟨a1, a2⟩
theorem Mine.no {lo hi cp : Nat} {w : World} {v : Value} {l : List It} (h : Mine lo hi cp w v l) : ∀ c, v = .slice none 0 c → c = 0 := by
  rcases h.shape with ⟨rfl, _⟩ | ⟨g, rfl⟩
  · intro c h
    cases h
    rfl
  · intro c h
    cases h
theorem Mine.sh {lo hi cp : Nat} {w : World} {v : Value} {l : List It} (h : Mine lo hi cp w v l) : ∃ p, v = .slice p l.length cp := by
  rcases h.shape with ⟨rfl, h1, h2⟩ | ⟨g, rfl⟩
  · exact ⟨none, by rw [h1, h2]⟩
  · exact ⟨_, rfl⟩
theorem own_rdA {W : World} {base n : Nat} {v : Value} {l : List It} (h : W.ownsRow base 27 2 v n (flat l)) : ItRd (fun _ => True) W v l := by
  have hn : n = l.length := by have := h.1; rw [flat_len] at this; omega
  subst hn
  have h' := h
  obtain ⟨h0, ⟨rfl, h1⟩ | ⟨g, cap, cur, rfl, h2, h3, h4, h5, h6, h7⟩⟩ := h'
  · exact nil_rd rfl (List.eq_nil_of_length_eq_zero h1) (by unfold maxLen; omega)
  · refine ⟨_, cap, rfl, h4, h5, fun hp => ⟨g, 0, rfl, trivial, (Array.getElem?_eq_some_iff.1 h3).1, fun i hi => ?_⟩⟩
    obtain ⟨a1, a2, _, _⟩ := owns_cell h hi
    simp only [Nat.zero_add]
    exact ⟨a1, a2⟩
/-- two items change places -/
theorem Mine.swap {lo hi cp g i k : Nat} {w : World} {c : List It} (h : Mine lo hi cp w (.slice (some ⟨g, 0, none⟩) c.length cp) c) (hi' : i < c.length) (hk : k < c.length) :
    Mine lo hi cp ((((w.setCell ⟨g, i * 2, none⟩ (.int .i64 c[k].1)).setCell ⟨g, i * 2 + 1, none⟩ (.int .i64 c[k].2)).setCell ⟨g, k * 2, none⟩ (.int .i64 c[i].1)).setCell ⟨g, k * 2 + 1, none⟩ (.int .i64 c[i].2)) (.slice (some ⟨g, 0, none⟩) c.length cp) ((c.set i c[k]).set k c[i]) := by
  have e : ((c.set i c[k]).set k c[i]).length = c.length := by simp
  refine ⟨?_, h.at_, .inr ⟨g, by rw [e]⟩⟩
  rw [e]
  exact owns_set (owns_set h.own hi' _) (by simpa using hk) _
structure Ent where
  v : Value
  l : List It
  lo : Nat
  hi : Nat
  cp : Nat
theorem apartL {w : World} {base gl : Nat} {L : List Ent} (hm : L.length ≤ 100) (hM : ∀ e ∈ L, Mine e.lo e.hi e.cp w e.v e.l ∧ base ≤ e.lo ∧ e.hi ≤ gl ∧ (e.cp + 1 ≤ 8796093022208 ∨ e.l.length + 4097 ≤ 8796093022208)) (hP : L.Pairwise (fun a b => a.hi ≤ b.lo ∨ b.hi ≤ a.lo))
    (hL : w.heap[gl]? = some (.cells (L.map Ent.v).toArray 22 (0, 0))) (hb : base ≤ w.heap.size) :
    Calls Try.prog 14 #[.slice (some ⟨gl, 0, none⟩) L.length L.length] w fun e w' => e = .returned (.bool true) ∧ Below base w w' := by
  have hE : ∀ j (hj : j < L.length), (L[j]?.getD ⟨undef, [], 0, 0, 0⟩) = L[j] := fun j hj => by rw [List.getElem?_eq_getElem hj]; rfl
  have hW := List.pairwise_iff_getElem.1 hP
  refine apart_any (v := fun j => (L[j]?.getD ⟨undef, [], 0, 0, 0⟩).v) (n := fun j => (L[j]?.getD ⟨undef, [], 0, 0, 0⟩).l.length) (cp := fun j => (L[j]?.getD ⟨undef, [], 0, 0, 0⟩).cp) (C0 := fun j => (L[j]?.getD ⟨undef, [], 0, 0, 0⟩).l) hm ?_ ?_ ?_ (Array.getElem?_eq_some_iff.1 hL).1 ?_ hb ?_ ?_
  · intro j hj
    simp only [hE j hj]
    obtain ⟨h1, h2, h3⟩ := hM _ (List.getElem_mem hj)
    exact owns_base h2 h1.own
  · intro i j hi hj hij k hki hkj
    simp only [hE i hi, hE j hj] at hki hkj
    have a1 := (hM _ (List.getElem_mem hi)).1.at_ k hki
    have a2 := (hM _ (List.getElem_mem hj)).1.at_ k hkj
    rcases Nat.lt_or_gt_of_ne hij with h | h
    · have := hW i j hi hj h
      omega
    · have := hW j i hj hi h
      omega
  · intro j hj
    simp only [hE j hj]
    rw [cell_of_row w gl j _ _ _ hL]
    simp [hj]
  · intro j hj e
    simp only [hE j hj] at e
    obtain ⟨h1, h2, h3, h4⟩ := hM _ (List.getElem_mem hj)
    have := h1.at_ gl e
    omega
  · intro j hj
    simp only [hE j hj]
    exact (hM _ (List.getElem_mem hj)).1.shape
  · intro j hj
    simp only [hE j hj]
    exact (hM _ (List.getElem_mem hj)).2.2.2

end Go.Proofs.Ytomieeajmelglaa

namespace Go.Proofs.Ytomieeajmelglaa
open Go.RowKit Go.Shelf
set_option linter.unusedVariables false
set_option linter.unusedSimpArgs false

theorem wpListIn_ap1 {F : Fence} {nn : Nat} {w : World} {ops : Array Oper} {rest : List Oper} {o : Oper} {a : Act} {Q : Exit → Act → World → Prop} (hgd : o.guard = none) (s x : Operand)
    (hop : o.op = .call { callee := .builtin .append, args := #[s, x], argTypes := #[22, 22] })
    (base : Nat) (v : Value) (n : Nat) (ys : List Value) (hs : a.eval s = v) (hown : w.ownsRow base 27 2 v n ys) (ad : Addr) (c : Nat) (y : It) (hx : a.eval x = .slice (some ad) 1 c) (hnews : ∀ j u, (flat [y])[j]? = some u → w.cell? (ad.add j) = some u)
    (hby : n + 1 ≤ 8796093022208) (hbase : base ≤ w.heap.size)
    (h : ∀ v' w', w'.ownsRow base 27 2 v' (n + 1) (ys ++ flat [y]) → ((w.grownBy w' none ∧ v'.ownBlock = some w.heap.size) ∨ ∃ g cap, n + 1 ≤ cap ∧ v = .slice (some ⟨g, 0, none⟩) n cap ∧ v' = .slice (some ⟨g, 0, none⟩) (n + 1) cap ∧ w.grownBy w' (some g)) → wpListIn F nn Try.prog ops Q rest (a.put o.dst v') w') : wpListIn F nn Try.prog ops Q (o :: rest) a w := by
  refine wpListIn_plain hgd fun K hK' => ?_
  obtain ⟨v', w', hrun, r1, r2⟩ := run_ap1 hown hnews hby hbase o.type
  unfold Oper.wpIn
  refine ⟨?_, ?_⟩
  · simp [Oper.about, hop, resolve, Target.leads, Sem.run_pure]
  · rw [Oper.semAt_plain F _ _ (by rw [hop]; intro c hc'; cases hc')]
    simp [execOp, hop, resolve, invoke, builtin, hs, hx]
    rw [hrun]
    exact hK' _ _ (h v' w' r1 r2)
def oR3 (x : Int) : Int := (IntKind.u64.wrap x).tmod 3
def rndF (a b : It) : Int := if oR3 a.1 = oR3 b.1 then 0 else if (oR3 a.1 + 1).tmod 3 = oR3 b.1 then -1 else 1
set_option maxRecDepth 100000 in
set_option maxHeartbeats 4000000 in
theorem greater_is : CmpIs (fun _ => True) (.func (.func 26) #[] #[]) (fun _ _ => 1) := by
  refine ⟨_, _, rfl, enters_of Try.func26 (by kernel_rfl) rfl, fun W a b _ => ?_⟩
  obtain ⟨a1, a2⟩ := a
  obtain ⟨b1, b2⟩ := b
  show Calls Try.prog 26 #[itV (a1, a2), itV (b1, b2)] W _
  go_enter Try.func26, Try.ntmps26
  go_wp2
  go_ret
  exact ⟨rfl, ((Below.refl _ W).alloc (Nat.le_refl _) _).alloc (by simp) _⟩
set_option maxRecDepth 100000 in
set_option maxHeartbeats 4000000 in
theorem less_is : CmpIs (fun _ => True) (.func (.func 27) #[] #[]) (fun _ _ => -1) := by
  refine ⟨_, _, rfl, enters_of Try.func27 (by kernel_rfl) rfl, fun W a b _ => ?_⟩
  obtain ⟨a1, a2⟩ := a
  obtain ⟨b1, b2⟩ := b
  show Calls Try.prog 27 #[itV (a1, a2), itV (b1, b2)] W _
  go_enter Try.func27, Try.ntmps27
  go_wp2
  go_ret
  exact ⟨rfl, ((Below.refl _ W).alloc (Nat.le_refl _) _).alloc (by simp) _⟩
theorem oR3_in (x : Int) : 0 ≤ oR3 x ∧ oR3 x < 3 := by
  unfold oR3
  have h := IntKind.wrap_u64 x
  rw [Int.tmod_eq_emod_of_nonneg (by rw [h]; omega)]
  omega
set_option maxRecDepth 100000 in
set_option maxHeartbeats 4000000 in
theorem round_is : CmpIs (fun _ => True) (.func (.func 25) #[] #[]) rndF := by
  refine ⟨_, _, rfl, enters_of Try.func25 (by kernel_rfl) rfl, fun W a b _ => ?_⟩
  obtain ⟨a1, a2⟩ := a
  obtain ⟨b1, b2⟩ := b
  have ia := oR3_in a1
  have ib := oR3_in b1
  have HF : Hid (rndF (a1, a2) (b1, b2) = if oR3 a1 = oR3 b1 then 0 else if (oR3 a1 + 1).tmod 3 = oR3 b1 then -1 else 1) := hide rfl
  have ea : (IntKind.u64.wrap a1).tmod 3 = oR3 a1 := rfl
  have eb : (IntKind.u64.wrap b1).tmod 3 = oR3 b1 := rfl
  obtain ⟨x, hx⟩ : ∃ x, oR3 a1 = x := ⟨_, rfl⟩
  obtain ⟨y, hy⟩ : ∃ y, oR3 b1 = y := ⟨_, rfl⟩
  rw [hx] at ia ea HF
  rw [hy] at ib eb HF
  obtain ⟨z, hz⟩ : ∃ z, rndF (a1, a2) (b1, b2) = z := ⟨_, rfl⟩
  rw [hz] at HF ⊢
  have e1 : IntKind.u64.wrap (x + 1) = x + 1 := by rw [IntKind.wrap_u64]; omega
  clear hx hy hz
  show Calls Try.prog 25 #[itV (a1, a2), itV (b1, b2)] W _
  have K0 : Hid (Below W.heap.size W ((W.alloc (.cells #[.int .i64 a1, .int .i64 a2] 27)).alloc (.cells #[.int .i64 b1, .int .i64 b2] 27))) := hide (((Below.refl _ W).alloc (Nat.le_refl _) _).alloc (by simp) _)
  go_enter Try.func25, Try.ntmps25
  go_wp2
  go_quiet (fail)
  have K1 := hide (K0.out.trans ((obel_drewN _ nq).mono K0.out.size))
  by_cases h1 : x = y
  · have HZ : Hid (z = 0) := hide (by rw [HF.out, if_pos h1])
    subst h1
    go_wp2
    go_ret
    exact ⟨by rw [HZ.out]; rfl, K1.out⟩
  · have ht : (x + 1).tmod 3 = (x + 1) % 3 := Int.tmod_eq_emod_of_nonneg (by omega)
    rw [ht] at HF
    clear ht
    by_cases h2 : (x + 1) % 3 = y
    · have HZ : Hid (z = -1) := hide (by rw [HF.out, if_neg h1, if_pos h2])
      go_wp2
      go_ret
      exact ⟨by rw [HZ.out]; rfl, K1.out⟩
    · have HZ : Hid (z = 1) := hide (by rw [HF.out, if_neg h1, if_neg h2])
      go_wp2
      go_ret
      exact ⟨by rw [HZ.out]; rfl, K1.out⟩
set_option maxRecDepth 100000 in
set_option maxHeartbeats 1000000 in
theorem all_box {w : World} {B : Nat} : Calls Try.prog 31 #[.pointer (some ⟨B, 0, none⟩)] w fun e w' => e = .returned (.func (.func 49) #[] #[.pointer (some ⟨w.heap.size, 0, none⟩)]) ∧ w'.cell? ⟨w.heap.size, 0, none⟩ = some (.pointer (some ⟨B, 0, none⟩)) ∧ w.heap.size < w'.heap.size ∧ Below w.heap.size w w' := by
  go_enter Try.func31, Try.ntmps31
  go_wp2
  go_ret
  exact ⟨rfl, by simp, by simp, (Below.refl _ w).alloc (Nat.le_refl _) _⟩

end Go.Proofs.Ytomieeajmelglaa

namespace Go.Proofs.Ytomieeajmelglaa
open Go.RowKit Go.Shelf
set_option linter.unusedVariables false
set_option linter.unusedSimpArgs false

set_option maxRecDepth 100000 in
theorem seqdesc : ∃ a b c, Try.prog.underlying 45 = some (.func a b c) := ⟨#[71], #[], false, by kernel_rfl⟩
theorem dr_both (f : It → It → Int) (l : List It) : (dr f (adF f ([], 0) l).1.length (adF f ([], 0) l).1).Perm l := (dr_perm f _ _ rfl).trans (by simpa using adF_perm f l ([], 0))
theorem adF_len (f : It → It → Int) (l : List It) : (adF f ([], 0) l).1.length = l.length := by
  have := (adF_perm f l ([], 0)).length_eq
  simpa using this
/-- between two rounds -/
def OdI (Bo : Nat) (w8 : World) (O : Nat → Prop) (pre : List It) (W : World) : Prop := ∃ v, W.ownsRow w8.heap.size 27 2 v pre.length (flat pre) ∧ Boxed W Bo 22 v ∧ BelX (fun k => k = Bo) w8.heap.size w8 W ∧ (∀ k, v.ownBlock = some k → O k) ∧ ∀ k, O k → w8.heap.size ≤ k ∧ k < W.heap.size
theorem odi_ab {Bo s : Nat} {w8 : World} (hB : Bo < w8.heap.size) (hs : w8.heap.size ≤ s) : AbO s (OdI Bo w8) := by
  rintro O pre A B ⟨v, a, b, c, d, e⟩ hf
  have hsz := c.size
  have hx : BelX (fun k => k = Bo) w8.heap.size A B := ⟨hf.os, hf.tape, hf.output, hf.size, fun k hk _ => hf.block k (by omega) (.inl (by omega))⟩
  refine ⟨v, ?_, (hf.block Bo (by omega) (.inl (by omega))).trans b, c.trans hx, d, fun k hk => ⟨(e k hk).1, Nat.lt_of_lt_of_le (e k hk).2 hf.size⟩⟩
  obtain ⟨h0, h1 | ⟨g, cap, cur, rfl, h2, h3, h4⟩⟩ := a
  · exact ⟨h0, .inl h1⟩
  · exact ⟨h0, .inr ⟨g, cap, cur, rfl, h2, (hf.block g (Array.getElem?_eq_some_iff.1 h3).1 (.inr (d g rfl))).trans h3, h4⟩⟩
theorem odi_put {Bo l : Nat} {w8 A : World} {O : Nat → Prop} {pre : List It} {r r' : Loop} (hB : Bo < w8.heap.size) (h : OdI Bo w8 O pre A) (hl : A.heap[l]? = some (.loop r)) (hw : w8.heap.size ≤ l) : OdI Bo w8 O pre (A.putObj l (.loop r')) := by
  obtain ⟨v, a, b, c, d, e⟩ := h
  exact ⟨v, owns_put a hl rfl, (World.putObj_heap_other (by omega)).trans b, c.trans (belx_putObj _ hw), d, fun k hk => by have := e k hk; simpa using this⟩
theorem odi_step {Bo : Nat} {w8 W w2 : World} {O : Nat → Prop} {pre : List It} {x : It} {v v' : Value} {o : Obj} (hB : Bo < w8.heap.size) (a : W.ownsRow w8.heap.size 27 2 v pre.length (flat pre)) (b : Boxed W Bo 22 v) (c : BelX (fun k => k = Bo) w8.heap.size w8 W) (d : ∀ k, v.ownBlock = some k → O k) (e : ∀ k, O k → w8.heap.size ≤ k ∧ k < W.heap.size)
    (hs : w8.heap.size + 2 ≤ W.heap.size) (ho : w2.ownsRow w8.heap.size 27 2 v' (pre.length + 1) (flat pre ++ flat [x])) (hp : ((W.alloc o).grownBy w2 none ∧ v'.ownBlock = some (W.heap.size + 1)) ∨ ∃ g cap, pre.length + 1 ≤ cap ∧ v = .slice (some ⟨g, 0, none⟩) pre.length cap ∧ v' = .slice (some ⟨g, 0, none⟩) (pre.length + 1) cap ∧ (W.alloc o).grownBy w2 (some g)) :
    Boxed w2 Bo 22 v ∧ KeepsFrom w8.heap.size W (w2.setCell ⟨Bo, 0, none⟩ v') ∧ KbO (w8.heap.size + 2) O W (w2.setCell ⟨Bo, 0, none⟩ v') ∧ ∃ O', OdI Bo w8 O' (pre ++ [x]) (w2.setCell ⟨Bo, 0, none⟩ v') ∧ ∀ k, O' k → (O k ∨ W.heap.size ≤ k) ∧ k < (w2.setCell ⟨Bo, 0, none⟩ v').heap.size := by
  obtain ⟨row, hg, hrow, hown⟩ : ∃ row, (W.alloc o).grownBy w2 row ∧ (∀ k, row = some k → v.ownBlock = some k) ∧ ∀ k, v'.ownBlock = some k → (v.ownBlock = some k ∨ k = W.heap.size + 1) := by
    rcases hp with ⟨h1, h2⟩ | ⟨g, cap, h0, h1, h2, h3⟩
    · exact ⟨none, h1, fun k e => (by cases e), fun k hk => .inr (by rw [h2] at hk; cases hk; rfl)⟩
    · subst h1
      subst h2
      exact ⟨some g, h3, fun k e => e, fun k hk => .inl hk⟩
  have hsz : (W.alloc o).heap.size = W.heap.size + 1 := by simp
  have hs2 := hg.size
  have rlo : ∀ k, row = some k → w8.heap.size ≤ k := fun k h => (owns_row a (hrow k h)).1
  have hv' : ∀ k, v'.ownBlock = some k → w8.heap.size ≤ k ∧ k < w2.heap.size := fun k hk => by
    obtain ⟨h1, cur, h2⟩ := owns_row ho hk
    exact ⟨h1, (Array.getElem?_eq_some_iff.1 h2).1⟩
  have b1 : BelX (fun k => k = Bo) w8.heap.size W (W.alloc o) := BelX.of ((Below.refl _ W).alloc (Nat.le_refl _) _) c.size
  have b2 : BelX (fun k => k = Bo) w8.heap.size (W.alloc o) w2 := BelX.grown hg (by omega) (fun k e => .inl (rlo k e))
  have bx := (b1.trans b2).trans (belx_set (i := 0) w2 v' (rfl : Bo = Bo))
  have bBo : Boxed w2 Bo 22 v := (b.alloc o).kept hg (fun e => by have := rlo Bo e.symm; omega)
  refine ⟨bBo, ?_, ⟨by simp; omega, fun k h1 h2 h3 => ?_⟩, fun k => v'.ownBlock = some k, ⟨v', ?_, bBo.set v', c.trans bx, fun k h => h, fun k hk => ?_⟩, fun k hk => ?_⟩
  · refine ((KeepsOthers.alloc W o).trans ((KeepsOthers.of_grownBy hg (fun j o' hj ho' => ?_)).trans (KeepsOthers.setCell _ _ _))).from _
    obtain ⟨cur, hc⟩ := (owns_row a (hrow j hj)).2
    have hc2 : (W.alloc o).heap[j]? = some (.cells cur 27 (0, 0)) := (Below.heap_alloc _ _ _ (Array.getElem?_eq_some_iff.1 hc).1).trans hc
    rw [hc2] at ho'
    cases ho'
    rfl
  · have e1 : (w2.setCell ⟨Bo, 0, none⟩ v').heap[k]? = w2.heap[k]? := (belx_set (X := fun k => k = Bo) (n := k + 1) (i := 0) w2 v' rfl).block k (by omega) (by omega)
    have e2 : w2.heap[k]? = (W.alloc o).heap[k]? := hg.block k (by omega) (fun e => h3 (d k (hrow k e.symm)))
    exact e1.trans (e2.trans (Below.heap_alloc _ _ _ h2))
  · rw [List.length_append, List.length_singleton, flat_append]
    exact owns_on ho (grownBy_setCell' _ _ _) (fun r e => by cases e; exact .inl hB)
  · have := hv' k hk
    simpa using this
  · have h1 := hv' k hk
    refine ⟨?_, by simpa using h1.2⟩
    rcases hown k hk with h | h
    · exact .inl (d k h)
    · exact .inr (by omega)

end Go.Proofs.Ytomieeajmelglaa

namespace Go.Proofs.Ytomieeajmelglaa
open Go.RowKit Go.Shelf
set_option linter.unusedVariables false
set_option linter.unusedSimpArgs false
attribute [local go_sem] Oper.semAt_some
set_option maxRecDepth 100000 in
set_option maxHeartbeats 8000000 in
theorem odd_0 {w : World} {va vb : Value} {xs ys : List It} {kd : Int} (ha : ItRd (fun _ => True) w va xs) (hb : ItRd (fun _ => True) w vb ys) (hna : ∀ c, va = .slice none 0 c → c = 0) (hnb : ∀ c, vb = .slice none 0 c → c = 0) (hl : xs.length ≤ 1048576) (hm : ys.length ≤ 1048576) (hk : kd % 3 = 0) (hk0 : 0 ≤ kd) (hk1 : kd ≤ 255) :
    Calls Try.prog 6 #[va, vb, .int .u8 kd] w fun e w' => e = .returned (.bool true) ∧ Below w.heap.size w w' := by
  obtain ⟨f, hf, CM⟩ : ∃ f : It → It → Int, f = rndF ∧ Hid (CmpIs (fun _ => True) (.func (.func 25) #[] #[]) f) := ⟨_, rfl, hide round_is⟩
  clear hf
  have RX := hide ha
  have RY := hide hb
  have NA := hide hna
  have NB := hide hnb
  obtain ⟨ao, ca, rfl, -, -, -⟩ := ha
  obtain ⟨bo, cb, rfl, -, -, -⟩ := hb
  have hkt : kd.tmod 3 = 0 := by rw [Int.tmod_eq_emod_of_nonneg hk0]; exact hk
  have hfq : ∀ (w : World) f a c, (binOp .eql 45 (.func f a c) .nilFunc).run Try.prog w = .ok (.bool false) w := ofunc_nil seqdesc
  have OW : Hid ((w.alloc (.cells #[] 27)).ownsRow w.heap.size 27 2 (.slice (some ⟨w.heap.size, 0, none⟩) 0 0) 0 []) := hide (World.ownsRow_made w _ 0 (Nat.le_refl _) (by unfold maxLen; omega) (by simp))
  clear hna hnb
  refine (callsIn_wide (n := 4)).1 ?_
  refine callsIn_of_wp_marks Try.func6 rfl trivial ?_ rfl
  simp only [Try.ntmps6, List.size_toArray, List.length_cons, List.length_nil, Nat.reduceAdd, Nat.reduceSub, Array.replicate_succ, Array.replicate_zero, List.push_toArray, List.append_toArray, List.nil_append, List.cons_append]
  refine wpIn_wide.2 ?_
  go_wp2_with (at_builtin; refine wpList_append_items rfl _ _ rfl w.heap.size _ 0 [] rfl OW.out _ xs rfl (RX.out.far ((Below.refl _ _).alloc (Nat.le_refl _) _)) NA.out (by unfold maxLen; omega) (by omega) (by simp) ?_)
  intro v3 w1 own3 bel3
  have OW3 := hide own3
  have K3 : Hid (Below w.heap.size w w1) := hide (((Below.refl _ w).alloc (Nat.le_refl _) _).trans bel3)
  clear own3 bel3 OW
  go_wp2_with (at_builtin; refine wpList_append_items rfl _ _ rfl w.heap.size _ xs.length _ rfl OW3.out _ ys rfl (RY.out.far K3.out) NB.out (by unfold maxLen; omega) (by omega) K3.out.size ?_)
  intro v4 w2 own4 bel4
  rw [← flat_append] at own4
  have KK : Hid (Below w.heap.size w w2) := hide (K3.out.trans bel4)
  obtain ⟨T, hT⟩ : ∃ T, xs ++ ys = T := ⟨_, rfl⟩
  have hTl : T.length = xs.length + ys.length := by rw [← hT, List.length_append]
  have MP := hide (mrg_perm f xs ys)
  rw [hT] at own4 MP
  have RB := hide (own_rdA own4)
  obtain ⟨pB, cB, eB, -, -, -⟩ := RB.out
  subst eB
  have TL := hide hTl
  replace RX := hide (RX.out.far KK.out)
  replace RY := hide (RY.out.far KK.out)
  have NAX := NA
  clear own4 bel4 OW3 K3 hT hTl NA NB
  have CC := hide (itsort_any (I := fun _ => True) (w := w2) (by omega) RX.out CM.out trivial (fun _ _ _ _ => trivial))
  go_wp2_with fail
  refine CC.out.mono ?_
  rintro e w3 ⟨⟨v, rfl, hO⟩, k⟩
  replace RX := hide (RX.out.far k)
  replace RY := hide (RY.out.far k)
  replace RB := hide (RB.out.far k)
  replace KK := hide (below_trans KK.out k)
  have RS := hide (Mine.of_own hO).rd
  obtain ⟨pS, cS, eS, -, -, -⟩ := RS.out
  subst eS
  clear hO
  clear CC k
  have CC := hide (shuffled_any RS.out RX.out (by rw [(srt_perm f 1 xs).length_eq]; omega) (srt_perm f 1 xs))
  go_wp2_with fail
  refine CC.out.mono ?_
  rintro e w4 ⟨rfl, k⟩
  replace RX := hide (RX.out.far k)
  replace RY := hide (RY.out.far k)
  replace RB := hide (RB.out.far k)
  replace KK := hide (below_trans KK.out k)
  clear RS
  clear CC k
  have CC := hide (merge_any (I := fun _ => True) (w := w4) RX.out RY.out (by omega) CM.out trivial (fun _ _ _ _ => trivial))
  go_wp2_with fail
  refine CC.out.mono ?_
  rintro e w5 ⟨⟨v, rfl, hO⟩, k⟩
  replace RX := hide (RX.out.far k)
  replace RY := hide (RY.out.far k)
  replace RB := hide (RB.out.far k)
  replace KK := hide (below_trans KK.out k)
  have RS := hide (Mine.of_own hO).rd
  obtain ⟨pM, cM, eM, -, -, -⟩ := RS.out
  subst eM
  clear hO
  clear CC k
  have CC := hide (shuffled_any RS.out RB.out (by rw [MP.out.length_eq, TL.out]; omega) MP.out)
  go_wp2_with fail
  refine CC.out.mono ?_
  rintro e w6 ⟨rfl, k⟩
  replace RX := hide (RX.out.far k)
  replace RY := hide (RY.out.far k)
  replace RB := hide (RB.out.far k)
  replace KK := hide (below_trans KK.out k)
  clear RS MP
  clear CC k
  have BL := hide (bsr_le (f := f) (l := xs) (x := (1, 0)) (Nat.zero_le xs.length)).2
  have CC := hide (search_any (I := fun _ => True) (w := w6) (x := (1, 0)) RX.out (by omega) CM.out (fun _ _ => trivial))
  go_wp2_with fail
  refine CC.out.mono ?_
  rintro e w7 ⟨rfl, k⟩
  replace RX := hide (RX.out.far k)
  replace RY := hide (RY.out.far k)
  replace RB := hide (RB.out.far k)
  replace KK := hide (below_trans KK.out k)
  clear CC k
  obtain ⟨sn, hsn⟩ : ∃ sn, bsr f xs (1, 0) 0 xs.length = sn := ⟨_, rfl⟩
  rw [hsn] at BL
  rw [hsn]
  obtain ⟨sb, hsb⟩ : ∃ sb, bsOk f xs (1, 0) sn = sb := ⟨_, rfl⟩
  rw [hsb]
  have hs0 : ¬ (sn : Int) < 0 := by omega
  have hs1 : ¬ (xs.length : Int) < (sn : Int) := by have := BL.out; omega
  clear hsn hsb BL
  have ZW0 := hide KK.out.size
  have CC := hide (new_any (w := w7) (g := 25) (cl := #[]))
  go_wp2_with fail
  refine CC.out.mono ?_
  rintro e w8 ⟨rfl, hbg, k, hsz⟩
  have RBg : Hid (ItRd (fun g => g < w7.heap.size) w8 (.slice pB T.length cB) T) := hide ((RB.out.mono (H := fun g => g < w7.heap.size) (fun g hg _ => hg)).below k)
  have BG := hide hbg
  have Z8 := hide hsz
  replace RX := hide (RX.out.far k)
  replace RY := hide (RY.out.far k)
  replace RB := hide (RB.out.far k)
  replace KK := hide (below_trans KK.out k)
  clear CC k hbg hsz RB
  have CC := hide (unique_any (I := fun _ => True) (w := w8) RX.out NAX.out (by omega) CM.out trivial (fun _ _ _ _ => trivial))
  go_wp2_with fail
  refine CC.out.mono ?_
  rintro e w9 ⟨⟨vq, rfl, -⟩, k⟩
  replace RX := hide (RX.out.far k)
  replace RBg := hide (RBg.out.below k)
  replace BG := hide (BG.out.keep (k.block _ BG.out.lt))
  replace KK := hide (below_trans KK.out k)
  clear CC k
  have CC := hide (twice_any (I := fun _ => True) (w := w9) RX.out (by omega) CM.out (fun _ _ => trivial))
  go_wp2_with fail
  refine CC.out.mono ?_
  rintro e w10 ⟨rfl, k⟩
  replace RX := hide (RX.out.far k)
  replace RBg := hide (RBg.out.below k)
  replace BG := hide (BG.out.keep (k.block _ BG.out.lt))
  replace KK := hide (below_trans KK.out k)
  clear CC k
  obtain ⟨tq, htq⟩ : ∃ t, tw f xs = t := ⟨_, rfl⟩
  rw [htq]
  clear htq
  have AL := adF_len f T
  have DP := hide (dr_both f T)
  obtain ⟨H, hH⟩ : ∃ H, adF f ([], 0) T = H := ⟨_, rfl⟩
  have CC := hide (add_any (I := fun _ => True) (w := w10) (base := w7.heap.size) (st := ([], 0)) (l := T) (f := f) ⟨_, BG.out, World.ownsRow_nil _ _ _ _⟩ (Nat.le_refl _) RBg.out (by have := TL.out; simp; omega) (by simp) (by simp) CM.out (fun _ _ => trivial))
  rw [hH] at CC DP AL
  have HAL := hide AL
  have Z78 : Hid (w7.heap.size ≤ w10.heap.size) := hide (by have := BG.out.lt; omega)
  have ZW : Hid (w.heap.size ≤ w7.heap.size) := hide ZW0.out
  clear hH AL BG
  go_wp2_with fail
  refine CC.out.mono ?_
  rintro e w11 ⟨rfl, hbi, k⟩
  obtain ⟨hv, hba, hrw⟩ := hbi
  have BA := hide hba
  have HR := hide hrw
  replace KK := hide (KK.out.trans (k.mono ZW.out))
  replace RBg := hide (RBg.out.belx (X := fun _ => False) (BelX.of (n := w7.heap.size) k (Nat.le_refl _)) (fun g hg => ⟨hg, fun e => e⟩))
  have BA0 := hide BA.out.lt
  clear CC k hba hrw
  obtain ⟨W12, hW12⟩ : ∃ u, w11.alloc (.cells #[.slice none 0 0] 22) = u := ⟨_, rfl⟩
  have k12 : Below w11.heap.size w11 W12 := by rw [← hW12]; exact (Below.refl _ w11).alloc (Nat.le_refl _) _
  have bO : Boxed W12 w11.heap.size 22 (.slice none 0 0) := by rw [← hW12]; exact Boxed.new _ _ _
  have CC := hide (all_box (w := W12) (B := w7.heap.size))
  go_wp2_with fail
  try rw [hW12]
  refine CC.out.mono ?_
  rintro e w13 ⟨rfl, hbb, hbl, k⟩
  have k13 := below_trans k12 k
  have BO : Hid (Boxed w13 w11.heap.size 22 (.slice none 0 0)) := hide ((k.block _ bO.lt).trans bO)
  have hBo : w11.heap.size < w13.heap.size := BO.out.lt
  have HBo := hide hBo
  replace BA := hide (BA.out.keep (k13.block _ BA.out.lt))
  replace HR := hide (hp_far HR.out k13)
  replace RBg := hide (RBg.out.below k13)
  replace KK := hide (below_trans KK.out k13)
  have HSEQ := hide (all_told (n := 3) (f := f) (by omega) hbb hbl BA.out HR.out (by have := HAL.out; have := TL.out; omega) CM.out)
  obtain ⟨Bo, hBO⟩ : ∃ b, w11.heap.size = b := ⟨_, rfl⟩
  have BoN : Hid (w7.heap.size < w11.heap.size) := hide (by have := BA0.out; omega)
  have ZW13 := hide KK.out.size
  rw [hBO] at BO HBo BoN
  obtain ⟨Bb, hBb⟩ : ∃ b, W12.heap.size = b := ⟨_, rfl⟩
  rw [hBb] at HSEQ
  have HX1 := hide hBO
  have HX2 := hide hBb
  obtain ⟨D, hD⟩ : ∃ D, dr f H.1.length H.1 = D := ⟨_, rfl⟩
  rw [hD] at DP HSEQ
  clear CC k k12 k13 bO hbb hbl hBo hBO hBb hD hW12
  go_wp2_with fail
  try rw [HX1.out]
  try rw [HX2.out]
  clear HX1 HX2
  refine (wpIn_wide (n := 4)).1 ?_
  refine' wpIn_rangeO rfl (by omega) (gf := 49) (lb := #[.pointer (some ⟨Bb, 0, none⟩)]) (by simp [go_sem]) trivial (enters_of Try.func49 (by kernel_rfl) rfl) HSEQ.out (Below.refl _ _) (fun _ => rfl) (OdI Bo w13) (fun _ _ _ _ => False) (odi_ab HBo.out (by omega)) (fun c O pre A B h _ => h) (fun O pre A l r r' h hl hw => odi_put HBo.out h hl hw) (fun c O pre A l r r' h _ _ => h) ⟨_, by simpa [flat] using World.ownsRow_nil _ _ _ _, BO.out, BelX.refl _ _ _, fun k h => (by cases h), fun k h => h.elim⟩
    (fun x a' W' => ∃ Bx, W'.heap[Bx]? = some (.cells #[.int .i64 x.1, .int .i64 x.2] 27 (0, 0)) ∧ a' = { tmps := #[Value.slice ao xs.length ca, Value.slice bo ys.length cb, Value.int IntKind.u8 kd, undef, undef, undef, Value.bool false, Value.func (Fn.func 25) #[] #[], Value.slice pB T.length cB, Value.int IntKind.i64 ((sn : Nat) : Int), Value.bool sb, Value.pointer (some { block := w7.heap.size, off := 0 }), Value.pointer (some { block := Bo, off := 0 }), Value.func (Fn.func 49) #[] #[Value.pointer (some { block := Bb, off := 0 })], Value.pointer (some { block := Bx, off := 0 }), Value.int IntKind.u8 kd, Value.int IntKind.u8 0, Value.bool false, Value.int IntKind.u8 kd, Value.int IntKind.u8 0, Value.bool false, Value.slice (some { block := w.heap.size, off := 0 }) 0 0, Value.slice ao xs.length ca, v3, Value.slice bo ys.length cb, Value.slice pB T.length cB, Value.slice ao xs.length ca, Value.func (Fn.func 25) #[] #[], Value.slice pS (srt f 1 xs).length cS, Value.slice ao xs.length ca, Value.bool true, Value.bool false, Value.bool false, Value.slice ao xs.length ca, Value.slice bo ys.length cb, Value.func (Fn.func 25) #[] #[], Value.slice pM (mrg f xs ys).length cM, Value.slice pB T.length cB, Value.bool true, Value.bool false, Value.bool false, Value.tuple #[Value.int IntKind.i64 ((sn : Nat) : Int), Value.bool sb], Value.slice ao xs.length ca, Value.agg #[Value.int IntKind.i64 1, Value.int IntKind.i64 0], Value.func (Fn.func 25) #[] #[], Value.tuple #[Value.int IntKind.i64 ((sn : Nat) : Int), Value.bool sb], Value.int IntKind.i64 ((sn : Nat) : Int), Value.bool sb, Value.func (Fn.func 25) #[] #[], Value.pointer (some { block := w7.heap.size, off := 0 }), Value.pointer (some { block := w7.heap.size, off := 0 }), Value.bool false, Value.bool false, Value.int IntKind.i64 ((sn : Nat) : Int), Value.bool (decide (((sn : Nat) : Int) < 0)), Value.bool (decide (((sn : Nat) : Int) < 0)), Value.bool (decide (((sn : Nat) : Int) < 0)), Value.int IntKind.i64 ((sn : Nat) : Int), Value.slice ao xs.length ca, Value.int IntKind.i64 ↑xs.length, Value.bool false, Value.bool (decide (((sn : Nat) : Int) < 0)), Value.slice ao xs.length ca, Value.func (Fn.func 25) #[] #[], vq, Value.slice ao xs.length ca, Value.func (Fn.func 25) #[] #[], Value.int IntKind.i64 tq, Value.pointer (some { block := w7.heap.size, off := 0 }), Value.slice pB T.length cB, Value.tuple #[], Value.pointer (some { block := w7.heap.size, off := 0 }), Value.func (Fn.func 49) #[] #[Value.pointer (some { block := Bb, off := 0 })], Value.func (Fn.func 49) #[] #[Value.pointer (some { block := Bb, off := 0 })], Value.bool false, Value.func (Fn.func 49) #[] #[Value.pointer (some { block := Bb, off := 0 })], itV x, undef, undef, undef, undef, undef, undef, undef, undef, undef, undef, undef, undef, undef, undef, undef, undef, undef], defers := [] }) ?hAt ?hassign ?hbody ?hdone ?hstop
  case hAt =>
    rintro x a' A l r r' ⟨Bx, h2, h3⟩ hl
    refine ⟨Bx, (World.putObj_heap_other (fun e => ?_)).trans h2, h3⟩
    subst e
    rw [h2] at hl
    cases hl
  case hassign =>
    rintro l x W' K hK
    gi_wp2
    exact hK _ _ ((Below.refl _ W').alloc (Nat.le_refl _) _) ⟨W'.heap.size, World.alloc_heap_new W' _, rfl⟩
  case hbody =>
    rintro l O pre x a' W' hi hrd ⟨Bx, hx0, rfl⟩ hsz
    obtain ⟨x1, x2⟩ := x
    obtain ⟨v, a, b, c, d, e⟩ := hi
    have c4 := b.cell
    have cx0 := cell_of_row W' _ 0 _ _ _ hx0
    have cx1 := cell_of_row W' _ 1 _ _ _ hx0
    simp at cx0 cx1
    have hpl : pre.length + 1 ≤ 8796093022208 := by
      have h1 := hrd.length_le
      have h2 := DP.out.length_eq
      have := TL.out
      simp at h1
      omega
    have HPL := hide hpl
    have OWN := hide (a.alloc (.cells #[.int .i64 x1, .int .i64 x2] 27))
    have NW := hide (show ∀ j u, (flat [(x1, x2)])[j]? = some u → (W'.alloc (.cells #[.int .i64 x1, .int .i64 x2] 27)).cell? ((⟨W'.heap.size, 0, none⟩ : Addr).add j) = some u from cell_two_new W' _ _ _)
    have BS : Hid (w13.heap.size ≤ W'.heap.size + 1) := hide (by omega)
    have HA := hide a
    have HB := hide b
    have HC := hide c
    have HD := hide d
    have HE := hide e
    have HSZ := hide hsz
    clear a b c d e hsz hpl hx0 hrd
    gi_wp2_with (gi_at_builtin; refine wpListIn_ap1 rfl _ _ rfl w13.heap.size _ pre.length _ rfl OWN.out _ _ (x1, x2) rfl NW.out HPL.out (by have := BS.out; simp; omega) ?_)
    intro v2 w2 own2 pl2
    obtain ⟨bb, ST⟩ := odi_step HBo.out HA.out HB.out HC.out HD.out HE.out HSZ.out own2 (by simpa using pl2)
    have STT := hide ST
    have g0 := bb.cell
    have g1 := bb.frozen
    obtain ⟨_, ⟨_, h0⟩ | ⟨g, cap, cur, rfl, _⟩⟩ := own2
    · omega
    clear pl2 ST bb NW OWN HA HB HC HD HE
    gi_wp2
    exact STT.out
  case hdone =>
    rintro Dm O zs W' hDm hzs hi hK
    subst hzs
    obtain ⟨v, a, b, c, d, e⟩ := hi
    have RO := hide (own_rdA a)
    obtain ⟨po, pc, ev, -, -, -⟩ := RO.out
    subst ev
    have cO := b.cell
    have hB := HBo.out
    have BA2 := hide (BA.out.keep (c.block _ (by have := BA.out.lt; omega) (by have := BoN.out; omega)))
    have RB2 : Hid (ItRd (fun _ => True) W' (.slice pB T.length cB) T) := hide ((RBg.out.belx (X := fun k => k = Bo) c (fun g hg => by have := BoN.out; omega)).mono (fun _ _ _ => trivial))
    have KW := hide (KK.out.trans (c.below (B := w.heap.size) (by have := KK.out.size; omega) (fun k hk e => by have := BoN.out; have := ZW.out; omega)))
    have HKD := hide hK
    clear a b c d e hK hB BA RBg KK
    have CC := hide (shuffled_any RO.out RB2.out (by rw [DP.out.length_eq, TL.out]; omega) DP.out)
    go_wp2_with fail
    refine CC.out.mono ?_
    rintro e w15 ⟨rfl, k⟩
    replace BA2 := hide (BA2.out.keep (k.block _ BA2.out.lt))
    replace HKD := hide ((k.block _ (Array.getElem?_eq_some_iff.1 HKD.out).1).trans HKD.out)
    replace KW := hide (below_trans KW.out k)
    clear CC k RO RB2
    obtain ⟨hpo, hpc, eh, -, -, -⟩ := HR.out.form
    subst eh
    rw [HAL.out] at BA2
    have CC := hide (len_any BA2.out (by have := TL.out; omega))
    go_wp2_with fail
    refine CC.out.mono ?_
    rintro e w15 ⟨rfl, rfl⟩
    clear CC BA2
    go_wp2_with fail
    refine olives.mono ?_
    rintro e w17 ⟨rfl, k⟩
    replace HKD := hide ((k.block _ (Array.getElem?_eq_some_iff.1 HKD.out).1).trans HKD.out)
    replace KW := hide (below_trans KW.out k)
    clear k
    go_wp2
    refine marks_leave (A := w13.heap.size) (Inv := fun u => Below w.heap.size w u) ?_ ?_ [Dm] _ (by simp; exact ⟨hDm, HKD.out⟩) (by simp) KW.out
    · rintro u D' i1 hD' hu
      exact i1.trans ((belx_putObj (X := fun _ => False) (n := w.heap.size) _ (by have := ZW13.out; omega)).below (Nat.le_refl _) (fun _ _ e => e))
    · rintro u i1
      exact ⟨_, results_tmp rfl _ _ _, rfl, i1⟩
  case hstop =>
    rintro Dm c O pre W' hDm hpx h hK
    exact h.elim
set_option maxRecDepth 100000 in
set_option maxHeartbeats 8000000 in
theorem odd_1 {w : World} {va vb : Value} {xs ys : List It} {kd : Int} (ha : ItRd (fun _ => True) w va xs) (hb : ItRd (fun _ => True) w vb ys) (hna : ∀ c, va = .slice none 0 c → c = 0) (hnb : ∀ c, vb = .slice none 0 c → c = 0) (hl : xs.length ≤ 1048576) (hm : ys.length ≤ 1048576) (hk : kd % 3 = 1) (hk0 : 0 ≤ kd) (hk1 : kd ≤ 255) :
    Calls Try.prog 6 #[va, vb, .int .u8 kd] w fun e w' => e = .returned (.bool true) ∧ Below w.heap.size w w' := by
  obtain ⟨f, hf, CM⟩ : ∃ f : It → It → Int, f = (fun _ _ => 1) ∧ Hid (CmpIs (fun _ => True) (.func (.func 26) #[] #[]) f) := ⟨_, rfl, hide greater_is⟩
  clear hf
  have RX := hide ha
  have RY := hide hb
  have NA := hide hna
  have NB := hide hnb
  obtain ⟨ao, ca, rfl, -, -, -⟩ := ha
  obtain ⟨bo, cb, rfl, -, -, -⟩ := hb
  have hkt : kd.tmod 3 = 1 := by rw [Int.tmod_eq_emod_of_nonneg hk0]; exact hk
  have hfq : ∀ (w : World) f a c, (binOp .eql 45 (.func f a c) .nilFunc).run Try.prog w = .ok (.bool false) w := ofunc_nil seqdesc
  have OW : Hid ((w.alloc (.cells #[] 27)).ownsRow w.heap.size 27 2 (.slice (some ⟨w.heap.size, 0, none⟩) 0 0) 0 []) := hide (World.ownsRow_made w _ 0 (Nat.le_refl _) (by unfold maxLen; omega) (by simp))
  clear hna hnb
  refine (callsIn_wide (n := 4)).1 ?_
  refine callsIn_of_wp_marks Try.func6 rfl trivial ?_ rfl
  simp only [Try.ntmps6, List.size_toArray, List.length_cons, List.length_nil, Nat.reduceAdd, Nat.reduceSub, Array.replicate_succ, Array.replicate_zero, List.push_toArray, List.append_toArray, List.nil_append, List.cons_append]
  refine wpIn_wide.2 ?_
  go_wp2_with (at_builtin; refine wpList_append_items rfl _ _ rfl w.heap.size _ 0 [] rfl OW.out _ xs rfl (RX.out.far ((Below.refl _ _).alloc (Nat.le_refl _) _)) NA.out (by unfold maxLen; omega) (by omega) (by simp) ?_)
  intro v3 w1 own3 bel3
  have OW3 := hide own3
  have K3 : Hid (Below w.heap.size w w1) := hide (((Below.refl _ w).alloc (Nat.le_refl _) _).trans bel3)
  clear own3 bel3 OW
  go_wp2_with (at_builtin; refine wpList_append_items rfl _ _ rfl w.heap.size _ xs.length _ rfl OW3.out _ ys rfl (RY.out.far K3.out) NB.out (by unfold maxLen; omega) (by omega) K3.out.size ?_)
  intro v4 w2 own4 bel4
  rw [← flat_append] at own4
  have KK : Hid (Below w.heap.size w w2) := hide (K3.out.trans bel4)
  obtain ⟨T, hT⟩ : ∃ T, xs ++ ys = T := ⟨_, rfl⟩
  have hTl : T.length = xs.length + ys.length := by rw [← hT, List.length_append]
  have MP := hide (mrg_perm f xs ys)
  rw [hT] at own4 MP
  have RB := hide (own_rdA own4)
  obtain ⟨pB, cB, eB, -, -, -⟩ := RB.out
  subst eB
  have TL := hide hTl
  replace RX := hide (RX.out.far KK.out)
  replace RY := hide (RY.out.far KK.out)
  have NAX := NA
  clear own4 bel4 OW3 K3 hT hTl NA NB
  have CC := hide (itsort_any (I := fun _ => True) (w := w2) (by omega) RX.out CM.out trivial (fun _ _ _ _ => trivial))
  go_wp2_with fail
  refine CC.out.mono ?_
  rintro e w3 ⟨⟨v, rfl, hO⟩, k⟩
  replace RX := hide (RX.out.far k)
  replace RY := hide (RY.out.far k)
  replace RB := hide (RB.out.far k)
  replace KK := hide (below_trans KK.out k)
  have RS := hide (Mine.of_own hO).rd
  obtain ⟨pS, cS, eS, -, -, -⟩ := RS.out
  subst eS
  clear hO
  clear CC k
  have CC := hide (shuffled_any RS.out RX.out (by rw [(srt_perm f 1 xs).length_eq]; omega) (srt_perm f 1 xs))
  go_wp2_with fail
  refine CC.out.mono ?_
  rintro e w4 ⟨rfl, k⟩
  replace RX := hide (RX.out.far k)
  replace RY := hide (RY.out.far k)
  replace RB := hide (RB.out.far k)
  replace KK := hide (below_trans KK.out k)
  clear RS
  clear CC k
  have CC := hide (merge_any (I := fun _ => True) (w := w4) RX.out RY.out (by omega) CM.out trivial (fun _ _ _ _ => trivial))
  go_wp2_with fail
  refine CC.out.mono ?_
  rintro e w5 ⟨⟨v, rfl, hO⟩, k⟩
  replace RX := hide (RX.out.far k)
  replace RY := hide (RY.out.far k)
  replace RB := hide (RB.out.far k)
  replace KK := hide (below_trans KK.out k)
  have RS := hide (Mine.of_own hO).rd
  obtain ⟨pM, cM, eM, -, -, -⟩ := RS.out
  subst eM
  clear hO
  clear CC k
  have CC := hide (shuffled_any RS.out RB.out (by rw [MP.out.length_eq, TL.out]; omega) MP.out)
  go_wp2_with fail
  refine CC.out.mono ?_
  rintro e w6 ⟨rfl, k⟩
  replace RX := hide (RX.out.far k)
  replace RY := hide (RY.out.far k)
  replace RB := hide (RB.out.far k)
  replace KK := hide (below_trans KK.out k)
  clear RS MP
  clear CC k
  have BL := hide (bsr_le (f := f) (l := xs) (x := (1, 0)) (Nat.zero_le xs.length)).2
  have CC := hide (search_any (I := fun _ => True) (w := w6) (x := (1, 0)) RX.out (by omega) CM.out (fun _ _ => trivial))
  go_wp2_with fail
  refine CC.out.mono ?_
  rintro e w7 ⟨rfl, k⟩
  replace RX := hide (RX.out.far k)
  replace RY := hide (RY.out.far k)
  replace RB := hide (RB.out.far k)
  replace KK := hide (below_trans KK.out k)
  clear CC k
  obtain ⟨sn, hsn⟩ : ∃ sn, bsr f xs (1, 0) 0 xs.length = sn := ⟨_, rfl⟩
  rw [hsn] at BL
  rw [hsn]
  obtain ⟨sb, hsb⟩ : ∃ sb, bsOk f xs (1, 0) sn = sb := ⟨_, rfl⟩
  rw [hsb]
  have hs0 : ¬ (sn : Int) < 0 := by omega
  have hs1 : ¬ (xs.length : Int) < (sn : Int) := by have := BL.out; omega
  clear hsn hsb BL
  have ZW0 := hide KK.out.size
  have CC := hide (new_any (w := w7) (g := 26) (cl := #[]))
  go_wp2_with fail
  refine CC.out.mono ?_
  rintro e w8 ⟨rfl, hbg, k, hsz⟩
  have RBg : Hid (ItRd (fun g => g < w7.heap.size) w8 (.slice pB T.length cB) T) := hide ((RB.out.mono (H := fun g => g < w7.heap.size) (fun g hg _ => hg)).below k)
  have BG := hide hbg
  have Z8 := hide hsz
  replace RX := hide (RX.out.far k)
  replace RY := hide (RY.out.far k)
  replace RB := hide (RB.out.far k)
  replace KK := hide (below_trans KK.out k)
  clear CC k hbg hsz RB
  have CC := hide (unique_any (I := fun _ => True) (w := w8) RX.out NAX.out (by omega) CM.out trivial (fun _ _ _ _ => trivial))
  go_wp2_with fail
  refine CC.out.mono ?_
  rintro e w9 ⟨⟨vq, rfl, -⟩, k⟩
  replace RX := hide (RX.out.far k)
  replace RBg := hide (RBg.out.below k)
  replace BG := hide (BG.out.keep (k.block _ BG.out.lt))
  replace KK := hide (below_trans KK.out k)
  clear CC k
  have CC := hide (twice_any (I := fun _ => True) (w := w9) RX.out (by omega) CM.out (fun _ _ => trivial))
  go_wp2_with fail
  refine CC.out.mono ?_
  rintro e w10 ⟨rfl, k⟩
  replace RX := hide (RX.out.far k)
  replace RBg := hide (RBg.out.below k)
  replace BG := hide (BG.out.keep (k.block _ BG.out.lt))
  replace KK := hide (below_trans KK.out k)
  clear CC k
  obtain ⟨tq, htq⟩ : ∃ t, tw f xs = t := ⟨_, rfl⟩
  rw [htq]
  clear htq
  have AL := adF_len f T
  have DP := hide (dr_both f T)
  obtain ⟨H, hH⟩ : ∃ H, adF f ([], 0) T = H := ⟨_, rfl⟩
  have CC := hide (add_any (I := fun _ => True) (w := w10) (base := w7.heap.size) (st := ([], 0)) (l := T) (f := f) ⟨_, BG.out, World.ownsRow_nil _ _ _ _⟩ (Nat.le_refl _) RBg.out (by have := TL.out; simp; omega) (by simp) (by simp) CM.out (fun _ _ => trivial))
  rw [hH] at CC DP AL
  have HAL := hide AL
  have Z78 : Hid (w7.heap.size ≤ w10.heap.size) := hide (by have := BG.out.lt; omega)
  have ZW : Hid (w.heap.size ≤ w7.heap.size) := hide ZW0.out
  clear hH AL BG
  go_wp2_with fail
  refine CC.out.mono ?_
  rintro e w11 ⟨rfl, hbi, k⟩
  obtain ⟨hv, hba, hrw⟩ := hbi
  have BA := hide hba
  have HR := hide hrw
  replace KK := hide (KK.out.trans (k.mono ZW.out))
  replace RBg := hide (RBg.out.belx (X := fun _ => False) (BelX.of (n := w7.heap.size) k (Nat.le_refl _)) (fun g hg => ⟨hg, fun e => e⟩))
  have BA0 := hide BA.out.lt
  clear CC k hba hrw
  obtain ⟨W12, hW12⟩ : ∃ u, w11.alloc (.cells #[.slice none 0 0] 22) = u := ⟨_, rfl⟩
  have k12 : Below w11.heap.size w11 W12 := by rw [← hW12]; exact (Below.refl _ w11).alloc (Nat.le_refl _) _
  have bO : Boxed W12 w11.heap.size 22 (.slice none 0 0) := by rw [← hW12]; exact Boxed.new _ _ _
  have CC := hide (all_box (w := W12) (B := w7.heap.size))
  go_wp2_with fail
  try rw [hW12]
  refine CC.out.mono ?_
  rintro e w13 ⟨rfl, hbb, hbl, k⟩
  have k13 := below_trans k12 k
  have BO : Hid (Boxed w13 w11.heap.size 22 (.slice none 0 0)) := hide ((k.block _ bO.lt).trans bO)
  have hBo : w11.heap.size < w13.heap.size := BO.out.lt
  have HBo := hide hBo
  replace BA := hide (BA.out.keep (k13.block _ BA.out.lt))
  replace HR := hide (hp_far HR.out k13)
  replace RBg := hide (RBg.out.below k13)
  replace KK := hide (below_trans KK.out k13)
  have HSEQ := hide (all_told (n := 3) (f := f) (by omega) hbb hbl BA.out HR.out (by have := HAL.out; have := TL.out; omega) CM.out)
  obtain ⟨Bo, hBO⟩ : ∃ b, w11.heap.size = b := ⟨_, rfl⟩
  have BoN : Hid (w7.heap.size < w11.heap.size) := hide (by have := BA0.out; omega)
  have ZW13 := hide KK.out.size
  rw [hBO] at BO HBo BoN
  obtain ⟨Bb, hBb⟩ : ∃ b, W12.heap.size = b := ⟨_, rfl⟩
  rw [hBb] at HSEQ
  have HX1 := hide hBO
  have HX2 := hide hBb
  obtain ⟨D, hD⟩ : ∃ D, dr f H.1.length H.1 = D := ⟨_, rfl⟩
  rw [hD] at DP HSEQ
  clear CC k k12 k13 bO hbb hbl hBo hBO hBb hD hW12
  go_wp2_with fail
  try rw [HX1.out]
  try rw [HX2.out]
  clear HX1 HX2
  refine (wpIn_wide (n := 4)).1 ?_
  refine' wpIn_rangeO rfl (by omega) (gf := 49) (lb := #[.pointer (some ⟨Bb, 0, none⟩)]) (by simp [go_sem]) trivial (enters_of Try.func49 (by kernel_rfl) rfl) HSEQ.out (Below.refl _ _) (fun _ => rfl) (OdI Bo w13) (fun _ _ _ _ => False) (odi_ab HBo.out (by omega)) (fun c O pre A B h _ => h) (fun O pre A l r r' h hl hw => odi_put HBo.out h hl hw) (fun c O pre A l r r' h _ _ => h) ⟨_, by simpa [flat] using World.ownsRow_nil _ _ _ _, BO.out, BelX.refl _ _ _, fun k h => (by cases h), fun k h => h.elim⟩
    (fun x a' W' => ∃ Bx, W'.heap[Bx]? = some (.cells #[.int .i64 x.1, .int .i64 x.2] 27 (0, 0)) ∧ a' = { tmps := #[Value.slice ao xs.length ca, Value.slice bo ys.length cb, Value.int IntKind.u8 kd, undef, undef, undef, Value.bool false, Value.func (Fn.func 26) #[] #[], Value.slice pB T.length cB, Value.int IntKind.i64 ((sn : Nat) : Int), Value.bool sb, Value.pointer (some { block := w7.heap.size, off := 0 }), Value.pointer (some { block := Bo, off := 0 }), Value.func (Fn.func 49) #[] #[Value.pointer (some { block := Bb, off := 0 })], Value.pointer (some { block := Bx, off := 0 }), Value.int IntKind.u8 kd, Value.int IntKind.u8 1, Value.bool true, Value.int IntKind.u8 kd, Value.int IntKind.u8 1, Value.bool false, Value.slice (some { block := w.heap.size, off := 0 }) 0 0, Value.slice ao xs.length ca, v3, Value.slice bo ys.length cb, Value.slice pB T.length cB, Value.slice ao xs.length ca, Value.func (Fn.func 26) #[] #[], Value.slice pS (srt f 1 xs).length cS, Value.slice ao xs.length ca, Value.bool true, Value.bool false, Value.bool false, Value.slice ao xs.length ca, Value.slice bo ys.length cb, Value.func (Fn.func 26) #[] #[], Value.slice pM (mrg f xs ys).length cM, Value.slice pB T.length cB, Value.bool true, Value.bool false, Value.bool false, Value.tuple #[Value.int IntKind.i64 ((sn : Nat) : Int), Value.bool sb], Value.slice ao xs.length ca, Value.agg #[Value.int IntKind.i64 1, Value.int IntKind.i64 0], Value.func (Fn.func 26) #[] #[], Value.tuple #[Value.int IntKind.i64 ((sn : Nat) : Int), Value.bool sb], Value.int IntKind.i64 ((sn : Nat) : Int), Value.bool sb, Value.func (Fn.func 26) #[] #[], Value.pointer (some { block := w7.heap.size, off := 0 }), Value.pointer (some { block := w7.heap.size, off := 0 }), Value.bool false, Value.bool false, Value.int IntKind.i64 ((sn : Nat) : Int), Value.bool (decide (((sn : Nat) : Int) < 0)), Value.bool (decide (((sn : Nat) : Int) < 0)), Value.bool (decide (((sn : Nat) : Int) < 0)), Value.int IntKind.i64 ((sn : Nat) : Int), Value.slice ao xs.length ca, Value.int IntKind.i64 ↑xs.length, Value.bool false, Value.bool (decide (((sn : Nat) : Int) < 0)), Value.slice ao xs.length ca, Value.func (Fn.func 26) #[] #[], vq, Value.slice ao xs.length ca, Value.func (Fn.func 26) #[] #[], Value.int IntKind.i64 tq, Value.pointer (some { block := w7.heap.size, off := 0 }), Value.slice pB T.length cB, Value.tuple #[], Value.pointer (some { block := w7.heap.size, off := 0 }), Value.func (Fn.func 49) #[] #[Value.pointer (some { block := Bb, off := 0 })], Value.func (Fn.func 49) #[] #[Value.pointer (some { block := Bb, off := 0 })], Value.bool false, Value.func (Fn.func 49) #[] #[Value.pointer (some { block := Bb, off := 0 })], itV x, undef, undef, undef, undef, undef, undef, undef, undef, undef, undef, undef, undef, undef, undef, undef, undef, undef], defers := [] }) ?hAt ?hassign ?hbody ?hdone ?hstop
  case hAt =>
    rintro x a' A l r r' ⟨Bx, h2, h3⟩ hl
    refine ⟨Bx, (World.putObj_heap_other (fun e => ?_)).trans h2, h3⟩
    subst e
    rw [h2] at hl
    cases hl
  case hassign =>
    rintro l x W' K hK
    gi_wp2
    exact hK _ _ ((Below.refl _ W').alloc (Nat.le_refl _) _) ⟨W'.heap.size, World.alloc_heap_new W' _, rfl⟩
  case hbody =>
    rintro l O pre x a' W' hi hrd ⟨Bx, hx0, rfl⟩ hsz
    obtain ⟨x1, x2⟩ := x
    obtain ⟨v, a, b, c, d, e⟩ := hi
    have c4 := b.cell
    have cx0 := cell_of_row W' _ 0 _ _ _ hx0
    have cx1 := cell_of_row W' _ 1 _ _ _ hx0
    simp at cx0 cx1
    have hpl : pre.length + 1 ≤ 8796093022208 := by
      have h1 := hrd.length_le
      have h2 := DP.out.length_eq
      have := TL.out
      simp at h1
      omega
    have HPL := hide hpl
    have OWN := hide (a.alloc (.cells #[.int .i64 x1, .int .i64 x2] 27))
    have NW := hide (show ∀ j u, (flat [(x1, x2)])[j]? = some u → (W'.alloc (.cells #[.int .i64 x1, .int .i64 x2] 27)).cell? ((⟨W'.heap.size, 0, none⟩ : Addr).add j) = some u from cell_two_new W' _ _ _)
    have BS : Hid (w13.heap.size ≤ W'.heap.size + 1) := hide (by omega)
    have HA := hide a
    have HB := hide b
    have HC := hide c
    have HD := hide d
    have HE := hide e
    have HSZ := hide hsz
    clear a b c d e hsz hpl hx0 hrd
    gi_wp2_with (gi_at_builtin; refine wpListIn_ap1 rfl _ _ rfl w13.heap.size _ pre.length _ rfl OWN.out _ _ (x1, x2) rfl NW.out HPL.out (by have := BS.out; simp; omega) ?_)
    intro v2 w2 own2 pl2
    obtain ⟨bb, ST⟩ := odi_step HBo.out HA.out HB.out HC.out HD.out HE.out HSZ.out own2 (by simpa using pl2)
    have STT := hide ST
    have g0 := bb.cell
    have g1 := bb.frozen
    obtain ⟨_, ⟨_, h0⟩ | ⟨g, cap, cur, rfl, _⟩⟩ := own2
    · omega
    clear pl2 ST bb NW OWN HA HB HC HD HE
    gi_wp2
    exact STT.out
  case hdone =>
    rintro Dm O zs W' hDm hzs hi hK
    subst hzs
    obtain ⟨v, a, b, c, d, e⟩ := hi
    have RO := hide (own_rdA a)
    obtain ⟨po, pc, ev, -, -, -⟩ := RO.out
    subst ev
    have cO := b.cell
    have hB := HBo.out
    have BA2 := hide (BA.out.keep (c.block _ (by have := BA.out.lt; omega) (by have := BoN.out; omega)))
    have RB2 : Hid (ItRd (fun _ => True) W' (.slice pB T.length cB) T) := hide ((RBg.out.belx (X := fun k => k = Bo) c (fun g hg => by have := BoN.out; omega)).mono (fun _ _ _ => trivial))
    have KW := hide (KK.out.trans (c.below (B := w.heap.size) (by have := KK.out.size; omega) (fun k hk e => by have := BoN.out; have := ZW.out; omega)))
    have HKD := hide hK
    clear a b c d e hK hB BA RBg KK
    have CC := hide (shuffled_any RO.out RB2.out (by rw [DP.out.length_eq, TL.out]; omega) DP.out)
    go_wp2_with fail
    refine CC.out.mono ?_
    rintro e w15 ⟨rfl, k⟩
    replace BA2 := hide (BA2.out.keep (k.block _ BA2.out.lt))
    replace HKD := hide ((k.block _ (Array.getElem?_eq_some_iff.1 HKD.out).1).trans HKD.out)
    replace KW := hide (below_trans KW.out k)
    clear CC k RO RB2
    obtain ⟨hpo, hpc, eh, -, -, -⟩ := HR.out.form
    subst eh
    rw [HAL.out] at BA2
    have CC := hide (len_any BA2.out (by have := TL.out; omega))
    go_wp2_with fail
    refine CC.out.mono ?_
    rintro e w15 ⟨rfl, rfl⟩
    clear CC BA2
    go_wp2_with fail
    refine olives.mono ?_
    rintro e w17 ⟨rfl, k⟩
    replace HKD := hide ((k.block _ (Array.getElem?_eq_some_iff.1 HKD.out).1).trans HKD.out)
    replace KW := hide (below_trans KW.out k)
    clear k
    go_wp2
    refine marks_leave (A := w13.heap.size) (Inv := fun u => Below w.heap.size w u) ?_ ?_ [Dm] _ (by simp; exact ⟨hDm, HKD.out⟩) (by simp) KW.out
    · rintro u D' i1 hD' hu
      exact i1.trans ((belx_putObj (X := fun _ => False) (n := w.heap.size) _ (by have := ZW13.out; omega)).below (Nat.le_refl _) (fun _ _ e => e))
    · rintro u i1
      exact ⟨_, results_tmp rfl _ _ _, rfl, i1⟩
  case hstop =>
    rintro Dm c O pre W' hDm hpx h hK
    exact h.elim
set_option maxRecDepth 100000 in
set_option maxHeartbeats 8000000 in
theorem odd_2 {w : World} {va vb : Value} {xs ys : List It} {kd : Int} (ha : ItRd (fun _ => True) w va xs) (hb : ItRd (fun _ => True) w vb ys) (hna : ∀ c, va = .slice none 0 c → c = 0) (hnb : ∀ c, vb = .slice none 0 c → c = 0) (hl : xs.length ≤ 1048576) (hm : ys.length ≤ 1048576) (hk : kd % 3 = 2) (hk0 : 0 ≤ kd) (hk1 : kd ≤ 255) :
    Calls Try.prog 6 #[va, vb, .int .u8 kd] w fun e w' => e = .returned (.bool true) ∧ Below w.heap.size w w' := by
  obtain ⟨f, hf, CM⟩ : ∃ f : It → It → Int, f = (fun _ _ => -1) ∧ Hid (CmpIs (fun _ => True) (.func (.func 27) #[] #[]) f) := ⟨_, rfl, hide less_is⟩
  clear hf
  have RX := hide ha
  have RY := hide hb
  have NA := hide hna
  have NB := hide hnb
  obtain ⟨ao, ca, rfl, -, -, -⟩ := ha
  obtain ⟨bo, cb, rfl, -, -, -⟩ := hb
  have hkt : kd.tmod 3 = 2 := by rw [Int.tmod_eq_emod_of_nonneg hk0]; exact hk
  have hfq : ∀ (w : World) f a c, (binOp .eql 45 (.func f a c) .nilFunc).run Try.prog w = .ok (.bool false) w := ofunc_nil seqdesc
  have OW : Hid ((w.alloc (.cells #[] 27)).ownsRow w.heap.size 27 2 (.slice (some ⟨w.heap.size, 0, none⟩) 0 0) 0 []) := hide (World.ownsRow_made w _ 0 (Nat.le_refl _) (by unfold maxLen; omega) (by simp))
  clear hna hnb
  refine (callsIn_wide (n := 4)).1 ?_
  refine callsIn_of_wp_marks Try.func6 rfl trivial ?_ rfl
  simp only [Try.ntmps6, List.size_toArray, List.length_cons, List.length_nil, Nat.reduceAdd, Nat.reduceSub, Array.replicate_succ, Array.replicate_zero, List.push_toArray, List.append_toArray, List.nil_append, List.cons_append]
  refine wpIn_wide.2 ?_
  go_wp2_with (at_builtin; refine wpList_append_items rfl _ _ rfl w.heap.size _ 0 [] rfl OW.out _ xs rfl (RX.out.far ((Below.refl _ _).alloc (Nat.le_refl _) _)) NA.out (by unfold maxLen; omega) (by omega) (by simp) ?_)
  intro v3 w1 own3 bel3
  have OW3 := hide own3
  have K3 : Hid (Below w.heap.size w w1) := hide (((Below.refl _ w).alloc (Nat.le_refl _) _).trans bel3)
  clear own3 bel3 OW
  go_wp2_with (at_builtin; refine wpList_append_items rfl _ _ rfl w.heap.size _ xs.length _ rfl OW3.out _ ys rfl (RY.out.far K3.out) NB.out (by unfold maxLen; omega) (by omega) K3.out.size ?_)
  intro v4 w2 own4 bel4
  rw [← flat_append] at own4
  have KK : Hid (Below w.heap.size w w2) := hide (K3.out.trans bel4)
  obtain ⟨T, hT⟩ : ∃ T, xs ++ ys = T := ⟨_, rfl⟩
  have hTl : T.length = xs.length + ys.length := by rw [← hT, List.length_append]
  have MP := hide (mrg_perm f xs ys)
  rw [hT] at own4 MP
  have RB := hide (own_rdA own4)
  obtain ⟨pB, cB, eB, -, -, -⟩ := RB.out
  subst eB
  have TL := hide hTl
  replace RX := hide (RX.out.far KK.out)
  replace RY := hide (RY.out.far KK.out)
  have NAX := NA
  clear own4 bel4 OW3 K3 hT hTl NA NB
  have CC := hide (itsort_any (I := fun _ => True) (w := w2) (by omega) RX.out CM.out trivial (fun _ _ _ _ => trivial))
  go_wp2_with fail
  refine CC.out.mono ?_
  rintro e w3 ⟨⟨v, rfl, hO⟩, k⟩
  replace RX := hide (RX.out.far k)
  replace RY := hide (RY.out.far k)
  replace RB := hide (RB.out.far k)
  replace KK := hide (below_trans KK.out k)
  have RS := hide (Mine.of_own hO).rd
  obtain ⟨pS, cS, eS, -, -, -⟩ := RS.out
  subst eS
  clear hO
  clear CC k
  have CC := hide (shuffled_any RS.out RX.out (by rw [(srt_perm f 1 xs).length_eq]; omega) (srt_perm f 1 xs))
  go_wp2_with fail
  refine CC.out.mono ?_
  rintro e w4 ⟨rfl, k⟩
  replace RX := hide (RX.out.far k)
  replace RY := hide (RY.out.far k)
  replace RB := hide (RB.out.far k)
  replace KK := hide (below_trans KK.out k)
  clear RS
  clear CC k
  have CC := hide (merge_any (I := fun _ => True) (w := w4) RX.out RY.out (by omega) CM.out trivial (fun _ _ _ _ => trivial))
  go_wp2_with fail
  refine CC.out.mono ?_
  rintro e w5 ⟨⟨v, rfl, hO⟩, k⟩
  replace RX := hide (RX.out.far k)
  replace RY := hide (RY.out.far k)
  replace RB := hide (RB.out.far k)
  replace KK := hide (below_trans KK.out k)
  have RS := hide (Mine.of_own hO).rd
  obtain ⟨pM, cM, eM, -, -, -⟩ := RS.out
  subst eM
  clear hO
  clear CC k
  have CC := hide (shuffled_any RS.out RB.out (by rw [MP.out.length_eq, TL.out]; omega) MP.out)
  go_wp2_with fail
  refine CC.out.mono ?_
  rintro e w6 ⟨rfl, k⟩
  replace RX := hide (RX.out.far k)
  replace RY := hide (RY.out.far k)
  replace RB := hide (RB.out.far k)
  replace KK := hide (below_trans KK.out k)
  clear RS MP
  clear CC k
  have BL := hide (bsr_le (f := f) (l := xs) (x := (1, 0)) (Nat.zero_le xs.length)).2
  have CC := hide (search_any (I := fun _ => True) (w := w6) (x := (1, 0)) RX.out (by omega) CM.out (fun _ _ => trivial))
  go_wp2_with fail
  refine CC.out.mono ?_
  rintro e w7 ⟨rfl, k⟩
  replace RX := hide (RX.out.far k)
  replace RY := hide (RY.out.far k)
  replace RB := hide (RB.out.far k)
  replace KK := hide (below_trans KK.out k)
  clear CC k
  obtain ⟨sn, hsn⟩ : ∃ sn, bsr f xs (1, 0) 0 xs.length = sn := ⟨_, rfl⟩
  rw [hsn] at BL
  rw [hsn]
  obtain ⟨sb, hsb⟩ : ∃ sb, bsOk f xs (1, 0) sn = sb := ⟨_, rfl⟩
  rw [hsb]
  have hs0 : ¬ (sn : Int) < 0 := by omega
  have hs1 : ¬ (xs.length : Int) < (sn : Int) := by have := BL.out; omega
  clear hsn hsb BL
  have ZW0 := hide KK.out.size
  have CC := hide (new_any (w := w7) (g := 27) (cl := #[]))
  go_wp2_with fail
  refine CC.out.mono ?_
  rintro e w8 ⟨rfl, hbg, k, hsz⟩
  have RBg : Hid (ItRd (fun g => g < w7.heap.size) w8 (.slice pB T.length cB) T) := hide ((RB.out.mono (H := fun g => g < w7.heap.size) (fun g hg _ => hg)).below k)
  have BG := hide hbg
  have Z8 := hide hsz
  replace RX := hide (RX.out.far k)
  replace RY := hide (RY.out.far k)
  replace RB := hide (RB.out.far k)
  replace KK := hide (below_trans KK.out k)
  clear CC k hbg hsz RB
  have CC := hide (unique_any (I := fun _ => True) (w := w8) RX.out NAX.out (by omega) CM.out trivial (fun _ _ _ _ => trivial))
  go_wp2_with fail
  refine CC.out.mono ?_
  rintro e w9 ⟨⟨vq, rfl, -⟩, k⟩
  replace RX := hide (RX.out.far k)
  replace RBg := hide (RBg.out.below k)
  replace BG := hide (BG.out.keep (k.block _ BG.out.lt))
  replace KK := hide (below_trans KK.out k)
  clear CC k
  have CC := hide (twice_any (I := fun _ => True) (w := w9) RX.out (by omega) CM.out (fun _ _ => trivial))
  go_wp2_with fail
  refine CC.out.mono ?_
  rintro e w10 ⟨rfl, k⟩
  replace RX := hide (RX.out.far k)
  replace RBg := hide (RBg.out.below k)
  replace BG := hide (BG.out.keep (k.block _ BG.out.lt))
  replace KK := hide (below_trans KK.out k)
  clear CC k
  obtain ⟨tq, htq⟩ : ∃ t, tw f xs = t := ⟨_, rfl⟩
  rw [htq]
  clear htq
  have AL := adF_len f T
  have DP := hide (dr_both f T)
  obtain ⟨H, hH⟩ : ∃ H, adF f ([], 0) T = H := ⟨_, rfl⟩
  have CC := hide (add_any (I := fun _ => True) (w := w10) (base := w7.heap.size) (st := ([], 0)) (l := T) (f := f) ⟨_, BG.out, World.ownsRow_nil _ _ _ _⟩ (Nat.le_refl _) RBg.out (by have := TL.out; simp; omega) (by simp) (by simp) CM.out (fun _ _ => trivial))
  rw [hH] at CC DP AL
  have HAL := hide AL
  have Z78 : Hid (w7.heap.size ≤ w10.heap.size) := hide (by have := BG.out.lt; omega)
  have ZW : Hid (w.heap.size ≤ w7.heap.size) := hide ZW0.out
  clear hH AL BG
  go_wp2_with fail
  refine CC.out.mono ?_
  rintro e w11 ⟨rfl, hbi, k⟩
  obtain ⟨hv, hba, hrw⟩ := hbi
  have BA := hide hba
  have HR := hide hrw
  replace KK := hide (KK.out.trans (k.mono ZW.out))
  replace RBg := hide (RBg.out.belx (X := fun _ => False) (BelX.of (n := w7.heap.size) k (Nat.le_refl _)) (fun g hg => ⟨hg, fun e => e⟩))
  have BA0 := hide BA.out.lt
  clear CC k hba hrw
  obtain ⟨W12, hW12⟩ : ∃ u, w11.alloc (.cells #[.slice none 0 0] 22) = u := ⟨_, rfl⟩
  have k12 : Below w11.heap.size w11 W12 := by rw [← hW12]; exact (Below.refl _ w11).alloc (Nat.le_refl _) _
  have bO : Boxed W12 w11.heap.size 22 (.slice none 0 0) := by rw [← hW12]; exact Boxed.new _ _ _
  have CC := hide (all_box (w := W12) (B := w7.heap.size))
  go_wp2_with fail
  try rw [hW12]
  refine CC.out.mono ?_
  rintro e w13 ⟨rfl, hbb, hbl, k⟩
  have k13 := below_trans k12 k
  have BO : Hid (Boxed w13 w11.heap.size 22 (.slice none 0 0)) := hide ((k.block _ bO.lt).trans bO)
  have hBo : w11.heap.size < w13.heap.size := BO.out.lt
  have HBo := hide hBo
  replace BA := hide (BA.out.keep (k13.block _ BA.out.lt))
  replace HR := hide (hp_far HR.out k13)
  replace RBg := hide (RBg.out.below k13)
  replace KK := hide (below_trans KK.out k13)
  have HSEQ := hide (all_told (n := 3) (f := f) (by omega) hbb hbl BA.out HR.out (by have := HAL.out; have := TL.out; omega) CM.out)
  obtain ⟨Bo, hBO⟩ : ∃ b, w11.heap.size = b := ⟨_, rfl⟩
  have BoN : Hid (w7.heap.size < w11.heap.size) := hide (by have := BA0.out; omega)
  have ZW13 := hide KK.out.size
  rw [hBO] at BO HBo BoN
  obtain ⟨Bb, hBb⟩ : ∃ b, W12.heap.size = b := ⟨_, rfl⟩
  rw [hBb] at HSEQ
  have HX1 := hide hBO
  have HX2 := hide hBb
  obtain ⟨D, hD⟩ : ∃ D, dr f H.1.length H.1 = D := ⟨_, rfl⟩
  rw [hD] at DP HSEQ
  clear CC k k12 k13 bO hbb hbl hBo hBO hBb hD hW12
  go_wp2_with fail
  try rw [HX1.out]
  try rw [HX2.out]
  clear HX1 HX2
  refine (wpIn_wide (n := 4)).1 ?_
  refine' wpIn_rangeO rfl (by omega) (gf := 49) (lb := #[.pointer (some ⟨Bb, 0, none⟩)]) (by simp [go_sem]) trivial (enters_of Try.func49 (by kernel_rfl) rfl) HSEQ.out (Below.refl _ _) (fun _ => rfl) (OdI Bo w13) (fun _ _ _ _ => False) (odi_ab HBo.out (by omega)) (fun c O pre A B h _ => h) (fun O pre A l r r' h hl hw => odi_put HBo.out h hl hw) (fun c O pre A l r r' h _ _ => h) ⟨_, by simpa [flat] using World.ownsRow_nil _ _ _ _, BO.out, BelX.refl _ _ _, fun k h => (by cases h), fun k h => h.elim⟩
    (fun x a' W' => ∃ Bx, W'.heap[Bx]? = some (.cells #[.int .i64 x.1, .int .i64 x.2] 27 (0, 0)) ∧ a' = { tmps := #[Value.slice ao xs.length ca, Value.slice bo ys.length cb, Value.int IntKind.u8 kd, undef, undef, undef, Value.bool false, Value.func (Fn.func 27) #[] #[], Value.slice pB T.length cB, Value.int IntKind.i64 ((sn : Nat) : Int), Value.bool sb, Value.pointer (some { block := w7.heap.size, off := 0 }), Value.pointer (some { block := Bo, off := 0 }), Value.func (Fn.func 49) #[] #[Value.pointer (some { block := Bb, off := 0 })], Value.pointer (some { block := Bx, off := 0 }), Value.int IntKind.u8 kd, Value.int IntKind.u8 2, Value.bool false, Value.int IntKind.u8 kd, Value.int IntKind.u8 2, Value.bool true, Value.slice (some { block := w.heap.size, off := 0 }) 0 0, Value.slice ao xs.length ca, v3, Value.slice bo ys.length cb, Value.slice pB T.length cB, Value.slice ao xs.length ca, Value.func (Fn.func 27) #[] #[], Value.slice pS (srt f 1 xs).length cS, Value.slice ao xs.length ca, Value.bool true, Value.bool false, Value.bool false, Value.slice ao xs.length ca, Value.slice bo ys.length cb, Value.func (Fn.func 27) #[] #[], Value.slice pM (mrg f xs ys).length cM, Value.slice pB T.length cB, Value.bool true, Value.bool false, Value.bool false, Value.tuple #[Value.int IntKind.i64 ((sn : Nat) : Int), Value.bool sb], Value.slice ao xs.length ca, Value.agg #[Value.int IntKind.i64 1, Value.int IntKind.i64 0], Value.func (Fn.func 27) #[] #[], Value.tuple #[Value.int IntKind.i64 ((sn : Nat) : Int), Value.bool sb], Value.int IntKind.i64 ((sn : Nat) : Int), Value.bool sb, Value.func (Fn.func 27) #[] #[], Value.pointer (some { block := w7.heap.size, off := 0 }), Value.pointer (some { block := w7.heap.size, off := 0 }), Value.bool false, Value.bool false, Value.int IntKind.i64 ((sn : Nat) : Int), Value.bool (decide (((sn : Nat) : Int) < 0)), Value.bool (decide (((sn : Nat) : Int) < 0)), Value.bool (decide (((sn : Nat) : Int) < 0)), Value.int IntKind.i64 ((sn : Nat) : Int), Value.slice ao xs.length ca, Value.int IntKind.i64 ↑xs.length, Value.bool false, Value.bool (decide (((sn : Nat) : Int) < 0)), Value.slice ao xs.length ca, Value.func (Fn.func 27) #[] #[], vq, Value.slice ao xs.length ca, Value.func (Fn.func 27) #[] #[], Value.int IntKind.i64 tq, Value.pointer (some { block := w7.heap.size, off := 0 }), Value.slice pB T.length cB, Value.tuple #[], Value.pointer (some { block := w7.heap.size, off := 0 }), Value.func (Fn.func 49) #[] #[Value.pointer (some { block := Bb, off := 0 })], Value.func (Fn.func 49) #[] #[Value.pointer (some { block := Bb, off := 0 })], Value.bool false, Value.func (Fn.func 49) #[] #[Value.pointer (some { block := Bb, off := 0 })], itV x, undef, undef, undef, undef, undef, undef, undef, undef, undef, undef, undef, undef, undef, undef, undef, undef, undef], defers := [] }) ?hAt ?hassign ?hbody ?hdone ?hstop
  case hAt =>
    rintro x a' A l r r' ⟨Bx, h2, h3⟩ hl
    refine ⟨Bx, (World.putObj_heap_other (fun e => ?_)).trans h2, h3⟩
    subst e
    rw [h2] at hl
    cases hl
  case hassign =>
    rintro l x W' K hK
    gi_wp2
    exact hK _ _ ((Below.refl _ W').alloc (Nat.le_refl _) _) ⟨W'.heap.size, World.alloc_heap_new W' _, rfl⟩
  case hbody =>
    rintro l O pre x a' W' hi hrd ⟨Bx, hx0, rfl⟩ hsz
    obtain ⟨x1, x2⟩ := x
    obtain ⟨v, a, b, c, d, e⟩ := hi
    have c4 := b.cell
    have cx0 := cell_of_row W' _ 0 _ _ _ hx0
    have cx1 := cell_of_row W' _ 1 _ _ _ hx0
    simp at cx0 cx1
    have hpl : pre.length + 1 ≤ 8796093022208 := by
      have h1 := hrd.length_le
      have h2 := DP.out.length_eq
      have := TL.out
      simp at h1
      omega
    have HPL := hide hpl
    have OWN := hide (a.alloc (.cells #[.int .i64 x1, .int .i64 x2] 27))
    have NW := hide (show ∀ j u, (flat [(x1, x2)])[j]? = some u → (W'.alloc (.cells #[.int .i64 x1, .int .i64 x2] 27)).cell? ((⟨W'.heap.size, 0, none⟩ : Addr).add j) = some u from cell_two_new W' _ _ _)
    have BS : Hid (w13.heap.size ≤ W'.heap.size + 1) := hide (by omega)
    have HA := hide a
    have HB := hide b
    have HC := hide c
    have HD := hide d
    have HE := hide e
    have HSZ := hide hsz
    clear a b c d e hsz hpl hx0 hrd
    gi_wp2_with (gi_at_builtin; refine wpListIn_ap1 rfl _ _ rfl w13.heap.size _ pre.length _ rfl OWN.out _ _ (x1, x2) rfl NW.out HPL.out (by have := BS.out; simp; omega) ?_)
    intro v2 w2 own2 pl2
    obtain ⟨bb, ST⟩ := odi_step HBo.out HA.out HB.out HC.out HD.out HE.out HSZ.out own2 (by simpa using pl2)
    have STT := hide ST
    have g0 := bb.cell
    have g1 := bb.frozen
    obtain ⟨_, ⟨_, h0⟩ | ⟨g, cap, cur, rfl, _⟩⟩ := own2
    · omega
    clear pl2 ST bb NW OWN HA HB HC HD HE
    gi_wp2
    exact STT.out
  case hdone =>
    rintro Dm O zs W' hDm hzs hi hK
    subst hzs
    obtain ⟨v, a, b, c, d, e⟩ := hi
    have RO := hide (own_rdA a)
    obtain ⟨po, pc, ev, -, -, -⟩ := RO.out
    subst ev
    have cO := b.cell
    have hB := HBo.out
    have BA2 := hide (BA.out.keep (c.block _ (by have := BA.out.lt; omega) (by have := BoN.out; omega)))
    have RB2 : Hid (ItRd (fun _ => True) W' (.slice pB T.length cB) T) := hide ((RBg.out.belx (X := fun k => k = Bo) c (fun g hg => by have := BoN.out; omega)).mono (fun _ _ _ => trivial))
    have KW := hide (KK.out.trans (c.below (B := w.heap.size) (by have := KK.out.size; omega) (fun k hk e => by have := BoN.out; have := ZW.out; omega)))
    have HKD := hide hK
    clear a b c d e hK hB BA RBg KK
    have CC := hide (shuffled_any RO.out RB2.out (by rw [DP.out.length_eq, TL.out]; omega) DP.out)
    go_wp2_with fail
    refine CC.out.mono ?_
    rintro e w15 ⟨rfl, k⟩
    replace BA2 := hide (BA2.out.keep (k.block _ BA2.out.lt))
    replace HKD := hide ((k.block _ (Array.getElem?_eq_some_iff.1 HKD.out).1).trans HKD.out)
    replace KW := hide (below_trans KW.out k)
    clear CC k RO RB2
    obtain ⟨hpo, hpc, eh, -, -, -⟩ := HR.out.form
    subst eh
    rw [HAL.out] at BA2
    have CC := hide (len_any BA2.out (by have := TL.out; omega))
    go_wp2_with fail
    refine CC.out.mono ?_
    rintro e w15 ⟨rfl, rfl⟩
    clear CC BA2
    go_wp2_with fail
    refine olives.mono ?_
    rintro e w17 ⟨rfl, k⟩
    replace HKD := hide ((k.block _ (Array.getElem?_eq_some_iff.1 HKD.out).1).trans HKD.out)
    replace KW := hide (below_trans KW.out k)
    clear k
    go_wp2
    refine marks_leave (A := w13.heap.size) (Inv := fun u => Below w.heap.size w u) ?_ ?_ [Dm] _ (by simp; exact ⟨hDm, HKD.out⟩) (by simp) KW.out
    · rintro u D' i1 hD' hu
      exact i1.trans ((belx_putObj (X := fun _ => False) (n := w.heap.size) _ (by have := ZW13.out; omega)).below (Nat.le_refl _) (fun _ _ e => e))
    · rintro u i1
      exact ⟨_, results_tmp rfl _ _ _, rfl, i1⟩
  case hstop =>
    rintro Dm c O pre W' hDm hpx h hK
    exact h.elim
theorem odd_any {w : World} {va vb : Value} {xs ys : List It} {kd : Int} (ha : ItRd (fun _ => True) w va xs) (hb : ItRd (fun _ => True) w vb ys) (hna : ∀ c, va = .slice none 0 c → c = 0) (hnb : ∀ c, vb = .slice none 0 c → c = 0) (hl : xs.length ≤ 1048576) (hm : ys.length ≤ 1048576) (hk0 : 0 ≤ kd) (hk1 : kd ≤ 255) :
    Calls Try.prog 6 #[va, vb, .int .u8 kd] w fun e w' => e = .returned (.bool true) ∧ Below w.heap.size w w' := by
  rcases (show kd % 3 = 0 ∨ kd % 3 = 1 ∨ kd % 3 = 2 by omega) with h | h | h
  · exact odd_0 ha hb hna hnb hl hm h hk0 hk1
  · exact odd_1 ha hb hna hnb hl hm h hk0 hk1
  · exact odd_2 ha hb hna hnb hl hm h hk0 hk1

end Go.Proofs.Ytomieeajmelglaa
