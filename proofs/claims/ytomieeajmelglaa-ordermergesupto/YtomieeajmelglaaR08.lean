/- OApW, OMine, OMeW -/
import Derived.WalkSmall
import Derived.Test.YtomieeajmelglaaR07
namespace Go.Proofs.Ytomieeajmelglaa
open Go.RowKit Go.Shelf
set_option linter.unusedVariables false
set_option linter.unusedSimpArgs false

set_option maxRecDepth 100000 in
set_option maxHeartbeats 8000000 in
theorem apart_any {w : World} {base m gl : Nat} {v : Nat → Value} {n cp : Nat → Nat} {C0 : Nat → List It} (hm : m ≤ 100) (hR : RW base m v n w C0) (hA : AP m v) (hL : LL gl m v w) (hgl : gl < w.heap.size) (hgn : ∀ j, j < m → (v j).ownBlock ≠ some gl) (hb : base ≤ w.heap.size)
    (hcp : ∀ j, j < m → (v j = .slice none 0 0 ∧ n j = 0 ∧ cp j = 0) ∨ ∃ g, v j = .slice (some ⟨g, 0, none⟩) (n j) (cp j)) (hcb : ∀ j, j < m → cp j + 1 ≤ 8796093022208 ∨ n j + 4097 ≤ 8796093022208) :
    Calls Try.prog 14 #[.slice (some ⟨gl, 0, none⟩) m m] w fun e w' => e = .returned (.bool true) ∧ Below base w w' := by
  have HR := hide hR
  have HA := hide hA
  have HL := hide hL
  have HG := hide hgn
  have HC := hide hcp
  have HN := hide (fun j (hj : j < m) => (show n j ≤ cp j by
    obtain ⟨_, ⟨e1, e2⟩ | ⟨g, cap, cur, e1, _, _, e4, _⟩⟩ := hR j hj
    · omega
    · rcases hcp j hj with ⟨h1, h2, h3⟩ | ⟨g', h1⟩
      · omega
      · rw [h1] at e1
        cases e1
        exact e4))
  have HCB := hide hcb
  have HCM : Hid (∀ j, j < m → cp j ≤ 9223372036854775807) := hide (fun j hj => by
    obtain ⟨_, ⟨e1, e2⟩ | ⟨g, cap, cur, e1, _, _, _, e5, _⟩⟩ := hR j hj
    · rcases hcp j hj with ⟨h1, h2, h3⟩ | ⟨g', h1⟩
      · omega
      · rw [h1] at e1
        cases e1
    · rcases hcp j hj with ⟨h1, h2, h3⟩ | ⟨g', h1⟩
      · omega
      · rw [h1] at e1
        cases e1
        unfold maxLen at e5
        omega)
  have HRS := hide (fun j (hj : j < m) (W : World) (C : Nat → List It) (hW : RW base m v n W C) k (hk : (v j).ownBlock = some k) => (show k < W.heap.size by
    obtain ⟨_, cur, h⟩ := owns_row (hW j hj) hk
    exact (Array.getElem?_eq_some_iff.1 h).1))
  have HSH : Hid (∀ j, j < m → ∃ po pc, v j = .slice po (n j) pc ∧ (0 < n j → ∃ g, po = some ⟨g, 0, none⟩ ∧ base ≤ g)) := hide (fun j hj => by
    obtain ⟨_, ⟨e1, e2⟩ | ⟨g, cap, cur, e1, e3, _⟩⟩ := hR j hj
    · exact ⟨none, 0, by rw [e1, e2], fun e => by omega⟩
    · exact ⟨_, cap, e1, fun _ => ⟨g, rfl, e3⟩⟩)
  clear hR hA hL hgn hcp hcb
  go_enter Try.func14, Try.ntmps14
  go_wp2
  go_loopw [3] (fun p wr => ∃ (i : Nat) (C : Nat → List It), p = .int .i64 i ∧ i ≤ m ∧ Hid (RW base m v n wr C) ∧ Hid (∀ j, j < i → C j = mkd j (n j)) ∧ Hid (LL gl m v wr) ∧ Hid (Below base w wr)) (fun p _ => m - (intOf p).toNat)
  case atStart => exact ⟨0, C0, rfl, by omega, HR, hide (fun j hj => by omega), HL, hide (Below.refl _ _)⟩
  case round =>
    obtain ⟨i, C, rfl, hi, hR, hM, hL, hB⟩ := hrel
    by_cases hil : i < m
    · have q1 : (i : Int) < (m : Int) := by omega
      have wi : IntKind.i64.wrap ((i : Int) + 1) = (i : Int) + 1 := by rw [IntKind.wrap_i64]; omega
      obtain ⟨po, pc, hv, hpo⟩ := HSH.out i hil
      have HPO := hide hpo
      have HV := hide hv
      have NI : Hid (n i ≤ 8796093022208) := hide (by have := HN.out i hil; have := HCB.out i hil; omega)
      clear hv hpo
      go_wp2
      go_loopw [4] (fun p wr => ∃ (k : Nat) (C : Nat → List It), p = .int .i64 k ∧ k ≤ n i ∧ Hid (RW base m v n wr C) ∧ Hid (∀ j, j < i → C j = mkd j (n j)) ∧ Hid (∀ t, t < k → (C i)[t]? = some ((i : Int), 100000 + (t : Int))) ∧ Hid (LL gl m v wr) ∧ Hid (Below base w wr)) (fun p _ => n i - (intOf p).toNat)
      case atStart => exact ⟨0, C, rfl, by omega, hR, hM, hide (fun t ht => by omega), hL, hB⟩
      case round =>
        clear hR hM hL hB
        obtain ⟨k, C, rfl, hk, hR, hM, hT, hL, hB⟩ := hrel
        have cL := hL.out i hil
        rw [HV.out] at cL
        by_cases hkl : k < n i
        · obtain ⟨g, rfl, hgb⟩ := HPO.out (by omega)
          have q2 : (k : Int) < (n i : Int) := by omega
          have wk : IntKind.i64.wrap ((k : Int) + 1) = (k : Int) + 1 := by have := NI.out; rw [IntKind.wrap_i64]; omega
          have wm : IntKind.i64.wrap (100000 + (k : Int)) = (100000 + (k : Int)) := by have := NI.out; rw [IntKind.wrap_i64]; omega
          have hCl := hR.out.len hil
          have hro := hR.out i hil
          rw [HV.out] at hro
          obtain ⟨c1, c2, f1, f2⟩ := owns_cell hro (k := k) (by omega)
          have R2 := hide (hR.out.set HA.out hil HV.out hkl ((i : Int), (100000 + (k : Int))))
          have hgg : gl ≠ g := fun e => HG.out i hil (by rw [HV.out, e]; rfl)
          have L2 := hide (hL.out.set (k := k) hgg (.int .i64 (i : Int)) (.int .i64 (100000 + (k : Int))))
          have B2 := hide (below_set (k := k) hB.out hgb (.int .i64 (i : Int)) (.int .i64 (100000 + (k : Int))))
          clear hro
          go_wp2
          go_roundw
          case rel =>
            refine ⟨k + 1, _, by simp, by omega, R2, hide (fun j hj => ?_), hide (fun t ht => ?_), L2, B2⟩
            · simp only [if_neg (show ¬ j = i by omega)]
              exact hM.out j hj
            · simp only [if_true]
              by_cases htk : t = k
              · subst htk
                rw [List.getElem?_set_self (by omega)]
              · rw [List.getElem?_set_ne (fun e => htk e.symm)]
                exact hT.out t (by omega)
          case measure => simp [intOf]; omega
        · obtain rfl : k = n i := by omega
          have q2 : ∀ x : Nat, ¬ (x : Int) < (x : Int) := fun x => by omega
          have hCi : Hid (C i = mkd i (n i)) := hide (List.ext_getElem? (fun t => by
            by_cases ht : t < n i
            · rw [hT.out t ht, List.getElem?_eq_getElem (by rw [mkd_len]; exact ht), mkd_get]
            · rw [List.getElem?_eq_none (by rw [hR.out.len hil]; omega), List.getElem?_eq_none (by rw [mkd_len]; omega)]))
          go_wp2
          go_roundw
          case rel =>
            refine ⟨i + 1, C, by simp, by omega, hR, hide (fun j hj => ?_), hL, hB⟩
            by_cases hji : j = i
            · subst hji
              exact hCi.out
            · exact hM.out j (by omega)
          case measure => simp [intOf]; omega
    · obtain rfl : i = m := by omega
      have RM : Hid (RW base i v n wr (fun j => mkd j (n j))) := hide (fun j hj => by have := hR.out j hj; rw [hM.out j hj] at this; exact this)
      have q2 : ∀ x : Nat, ¬ (x : Int) < (x : Int) := fun x => by omega
      have HL1 := hL
      have HB1 := hB
      clear hR hM hL hB hil hi
      go_wp2
      go_loopw [5] (fun p wr => ∃ (t : Nat), p = .int .i64 t ∧ t ≤ i ∧ Hid (RW base i v n wr (fun j => mkd j (n j))) ∧ Hid (LL gl i v wr) ∧ Hid (Below base w wr)) (fun p _ => i - (intOf p).toNat)
      case atStart => exact ⟨0, rfl, by omega, RM, HL1, HB1⟩
      case round =>
        clear RM HL1 HB1
        obtain ⟨t, rfl, ht, hR, hL, hB⟩ := hrel
        by_cases htl : t < i
        · have q1 : (t : Int) < (i : Int) := by omega
          have wi : IntKind.i64.wrap ((t : Int) + 1) = (t : Int) + 1 := by rw [IntKind.wrap_i64]; omega
          have cL := hL.out t htl
          obtain ⟨po, hv, hcase⟩ : ∃ po, v t = .slice po (n t) (cp t) ∧ ((po = none ∧ n t = 0 ∧ cp t = 0) ∨ ∃ g, po = some ⟨g, 0, none⟩) := by
            rcases HC.out t htl with ⟨h1, h2, h3⟩ | ⟨g, h1⟩
            · exact ⟨none, by rw [h1, h2, h3], .inl ⟨rfl, h2, h3⟩⟩
            · exact ⟨_, h1, .inr ⟨g, rfl⟩⟩
          rw [hv] at cL
          have hnc := HN.out t htl
          have hcb := HCB.out t htl
          have hcm := HCM.out t htl
          obtain ⟨D, hD⟩ : ∃ D, cp t - n t = D := ⟨_, rfl⟩
          have hDm : D ≤ 9223372036854775807 := by omega
          have HDM := hide hDm
          have wd : IntKind.i64.wrap ((cp t : Int) - (n t : Int)) = (D : Int) := by rw [IntKind.wrap_i64]; omega
          have OW := hide (hR.out t htl)
          rw [hv] at OW
          have S0 : Hid (∀ j, j < i → ∀ k, (v j).ownBlock = some k → k < wr.heap.size) := hide (fun j hj k hk => HRS.out j hj wr _ hR.out k hk)
          have PL0 : Hid (Pla (v t) (n t) wr.heap.size (cp t) 0 (.slice po (n t) (cp t))) := hide (by
            rcases hcase with ⟨h1, _⟩ | ⟨g, h1⟩
            · subst h1; exact .inl rfl
            · subst h1; exact .inr (.inl ⟨g, hv, rfl⟩))
          have bw : Hid (base ≤ wr.heap.size ∧ gl < wr.heap.size) := hide (by have := hB.out.size; omega)
          have HDD := hide hD
          have HNC := hide hnc
          have HCC := hide hcb
          clear hcase hD hnc hcb hcm hDm
          go_wp2
          obtain ⟨s0, hs0⟩ : ∃ s, wr.heap.size = s := ⟨_, rfl⟩
          rw [hs0] at S0 PL0 bw
          have HS0 := hide (Nat.le_of_eq hs0.symm)
          clear hs0 hv cL
          go_loopw [6, 7] (fun vg c wr => ∃ (q : Nat) (ys : List It), c = .int .i64 ((D : Int) - (q : Int)) ∧ q ≤ D + 1 ∧ Hid (q = 0 ∨ D < 4096) ∧ Hid (wr.ownsRow base 27 2 vg (n t + q) (flat (mkd t (n t) ++ ys))) ∧ Hid (Pla (v t) (n t) s0 (cp t) q vg) ∧ Hid (RW base i v n wr (fun j => mkd j (n j))) ∧ Hid (LL gl i v wr) ∧ Hid (Below base w wr) ∧ Hid (s0 ≤ wr.heap.size)) (fun _ c _ => (intOf c + 1).toNat)
          case atStart => exact ⟨0, [], by simp, by omega, hide (.inl rfl), hide (by have := OW.out; simpa using this), PL0, hR, hL, hB, HS0⟩
          case round =>
            clear OW PL0 hR hL hB HS0
            obtain ⟨q, ys, rfl, hq, hqd, hO, hP, hR, hL, hB, hS⟩ := hrel
            by_cases hgo : q ≤ D ∧ D - q < 4096
            · obtain ⟨g1, g2⟩ := hgo
              have d1 : (0 : Int) ≤ (D : Int) - (q : Int) := by omega
              have d2 : (D : Int) - (q : Int) < 4096 := by omega
              have wc : IntKind.i64.wrap ((D : Int) - (q : Int) - 1) = (D : Int) - (q : Int) - 1 := by have := HDM.out; rw [IntKind.wrap_i64]; omega
              have hbn : n t + q + 1 ≤ 8796093022208 := by have := HDD.out; have := HNC.out; have := HCC.out; have := hqd.out; omega
              have HQ2 : Hid (q + 1 = 0 ∨ D < 4096) := hide (by have := hqd.out; omega)
              have HBN := hide hbn
              have NW := hide (fun (W : World) => (show ∀ j u, (flat [((-5 : Int), (t : Int))])[j]? = some u → (W.alloc (.cells #[.int .i64 (-5), .int .i64 (t : Int)] 27)).cell? ((⟨W.heap.size, 0, none⟩ : Addr).add j) = some u from cell_two_new W _ _ _))
              have BA := hide ((bw.out.1))
              obtain ⟨cc, hcc⟩ : ∃ c, (D : Int) - (q : Int) = c := ⟨_, rfl⟩
              have HCQ := hide hcc
              rw [hcc] at d1 d2 wc ⊢
              clear hbn hcc hq
              go_wp2_with (at_builtin; refine wpList_ap1 rfl _ _ rfl base _ (n t + q) _ rfl (hO.out.alloc _) _ _ ((-5 : Int), (t : Int)) rfl (NW.out _) HBN.out (by have := BA.out; have := hS.out; simp; omega) ?_)
              intro v2 w2 own2 pl2
              rw [← flat_append] at own2
              have RW2 : RW base i v n (wr.alloc (.cells #[.int .i64 (-5), .int .i64 (t : Int)] 27)) (fun j => mkd j (n j)) := fun j hj => (hR.out j hj).alloc _
              have LL2 : LL gl i v (wr.alloc (.cells #[.int .i64 (-5), .int .i64 (t : Int)] 27)) := fun j hj => (((Below.refl _ wr).alloc (Nat.le_refl _) _).cell (p := ⟨gl, j, none⟩) (by have := bw.out.2; have := hS.out; show gl < wr.heap.size; omega)).trans (hL.out j hj)
              obtain ⟨s1, s2, s3, s4, s5⟩ := grow_step (y := ((-5 : Int), (t : Int))) RW2 HA.out htl (by have := hS.out; simp; omega) bw.out.1 S0.out LL2 bw.out.2 HG.out (hB.out.alloc (by have := bw.out.1; have := hS.out; omega) _) hP.out own2 (pl2.imp_left (fun h => ⟨h.1, _, h.2, by have := hS.out; omega⟩))
              have T1 := hide s1
              have T2 := hide s2
              have T3 := hide s3
              have T4 := hide s4
              have T5 := hide s5
              rw [List.append_assoc] at own2
              have T6 := hide own2
              clear s1 s2 s3 s4 s5 own2 pl2 RW2 LL2 NW BA HBN
              go_wp2
              go_roundw
              case rel =>
                refine ⟨q + 1, _, ?_, by omega, HQ2, T6, T4, T1, T2, T3, T5⟩
                rw [← HCQ.out]
                congr 1
                omega
              case measure =>
                simp only [intOf]
                omega
            · have hex : Hid (RW base i v n wr (fun j => mkd j (n j)) ∧ LL gl i v wr ∧ Below base w wr) := hide ⟨hR.out, hL.out, hB.out⟩
              by_cases hqd2 : q ≤ D
              · have d1 : (0 : Int) ≤ (D : Int) - (q : Int) := by omega
                have d2 : ¬ (D : Int) - (q : Int) < 4096 := by omega
                obtain ⟨cc, hcc⟩ : ∃ c, (D : Int) - (q : Int) = c := ⟨_, rfl⟩
                rw [hcc] at d1 d2 ⊢
                clear hcc hgo hq hqd2
                go_wp2
                go_roundw
                case rel => exact ⟨t + 1, by simp, by omega, hide hex.out.1, hide hex.out.2.1, hide hex.out.2.2⟩
                case measure => simp [intOf]; omega
              · have d1 : ¬ (0 : Int) ≤ (D : Int) - (q : Int) := by omega
                obtain ⟨cc, hcc⟩ : ∃ c, (D : Int) - (q : Int) = c := ⟨_, rfl⟩
                rw [hcc] at d1 ⊢
                clear hcc hgo hq hqd2
                go_wp2
                go_roundw
                case rel => exact ⟨t + 1, by simp, by omega, hide hex.out.1, hide hex.out.2.1, hide hex.out.2.2⟩
                case measure => simp [intOf]; omega
        · obtain rfl : t = i := by omega
          go_wp2
          go_loopw [8] (fun p wr => ∃ (a : Nat), p = .int .i64 a ∧ a ≤ t ∧ Hid (RW base t v n wr (fun j => mkd j (n j))) ∧ Hid (LL gl t v wr) ∧ Hid (Below base w wr)) (fun p _ => t - (intOf p).toNat)
          case atStart => exact ⟨0, rfl, by omega, hR, hL, hB⟩
          case round =>
            clear hR hL hB ht htl
            obtain ⟨a, rfl, ha, hR, hL, hB⟩ := hrel
            by_cases hal : a < t
            · have q1 : (a : Int) < (t : Int) := by omega
              have wi : IntKind.i64.wrap ((a : Int) + 1) = (a : Int) + 1 := by rw [IntKind.wrap_i64]; omega
              obtain ⟨po, pc, hv, hpo⟩ := HSH.out a hal
              have HPO := hide hpo
              have HV := hide hv
              have NI : Hid (n a ≤ 8796093022208) := hide (by have := HN.out a hal; have := HCB.out a hal; omega)
              clear hv hpo
              go_wp2
              go_loopw [9] (fun p wr => ∃ (k : Nat), p = .int .i64 k ∧ k ≤ n a ∧ Hid (RW base t v n wr (fun j => mkd j (n j))) ∧ Hid (LL gl t v wr) ∧ Hid (Below base w wr)) (fun p _ => n a - (intOf p).toNat)
              case atStart => exact ⟨0, rfl, by omega, hR, hL, hB⟩
              case round =>
                clear hR hL hB
                obtain ⟨k, rfl, hk, hR, hL, hB⟩ := hrel
                have cL := hL.out a hal
                rw [HV.out] at cL
                by_cases hkl : k < n a
                · obtain ⟨g, rfl, hgb⟩ := HPO.out (by omega)
                  have q2 : (k : Int) < (n a : Int) := by omega
                  have wk : IntKind.i64.wrap ((k : Int) + 1) = (k : Int) + 1 := by have := NI.out; rw [IntKind.wrap_i64]; omega
                  have wm : IntKind.i64.wrap (100000 + (k : Int)) = 100000 + (k : Int) := by have := NI.out; rw [IntKind.wrap_i64]; omega
                  have hro := hR.out a hal
                  rw [HV.out] at hro
                  obtain ⟨c1, c2, f1, f2⟩ := owns_cell hro (k := k) (by rw [mkd_len]; exact hkl)
                  rw [mkd_get] at c1 c2
                  simp only at c1 c2
                  clear hro f1 f2
                  go_wp2
                  go_roundw
                  case rel => exact ⟨k + 1, by simp, by omega, hR, hL, hB⟩
                  case measure => simp [intOf]; omega
                · obtain rfl : k = n a := by omega
                  have q2 : ∀ x : Nat, ¬ (x : Int) < (x : Int) := fun x => by omega
                  go_wp2
                  go_roundw
                  case rel => exact ⟨a + 1, by simp, by omega, hR, hL, hB⟩
                  case measure => simp [intOf]; omega
            · obtain rfl : a = t := by omega
              have q3 : ∀ x : Nat, ¬ (x : Int) < (x : Int) := fun x => by omega
              go_wp2
              go_ret
              exact ⟨rfl, hB.out⟩

end Go.Proofs.Ytomieeajmelglaa

namespace Go.Proofs.Ytomieeajmelglaa
open Go.RowKit Go.Shelf
set_option linter.unusedVariables false
set_option linter.unusedSimpArgs false

/-- a list of one's own in a block from lo on and below hi, with its capacity -/
structure Mine (lo hi cp : Nat) (W : World) (v : Value) (l : List It) : Prop where
  own : W.ownsRow lo 27 2 v l.length (flat l)
  at_ : ∀ k, v.ownBlock = some k → lo ≤ k ∧ k < hi
  shape : (v = .slice none 0 0 ∧ l.length = 0 ∧ cp = 0) ∨ ∃ g, v = .slice (some ⟨g, 0, none⟩) l.length cp
theorem Mine.of_own {B : Nat} {w : World} {v : Value} {l : List It} (h : Own12 B w v l) : Mine B w.heap.size l.length w v l := by
  rcases h with ⟨rfl, rfl⟩ | ⟨g, rfl, hB, hr, hm⟩
  · exact ⟨by simpa [flat] using World.ownsRow_nil _ _ _ _, fun k hk => (by cases hk), .inl ⟨rfl, rfl, rfl⟩⟩
  · refine ⟨⟨flat_len l, .inr ⟨g, _, _, rfl, hB, hr, Nat.le_refl _, hm, by simp [flat_len], ?_⟩⟩, fun k hk => ?_, .inr ⟨g, rfl⟩⟩
    · rw [List.toList_toArray, ← flat_len l, List.take_length]
    · cases hk
      exact ⟨hB, hr.lt⟩
theorem Mine.of_lent {B : Nat} {w : World} {g cap : Nat} {l : List It} (h : Lent B w g cap l) : Mine B w.heap.size cap w (.slice (some ⟨g, 0, none⟩) l.length cap) l := by
  have hh := h.itin
  refine ⟨owns_pre h, fun k hk => ?_, .inr ⟨g, rfl⟩⟩
  cases hk
  exact ⟨hh.1, hh.2.1⟩
theorem Mine.of_row {B n : Nat} {w : World} {v : Value} {l : List It} (h : w.ownsRow B 27 2 v n (flat l)) : ∃ cp, Mine B w.heap.size cp w v l := by
  have hn : n = l.length := by have := h.1; rw [flat_len] at this; omega
  subst hn
  have h' := h
  obtain ⟨h0, ⟨rfl, h1⟩ | ⟨g, cap, cur, rfl, h2, h3, h4⟩⟩ := h'
  · exact ⟨0, h, fun k hk => (by cases hk), .inl ⟨rfl, h1, rfl⟩⟩
  · refine ⟨cap, h, fun k hk => ?_, .inr ⟨g, rfl⟩⟩
    cases hk
    exact ⟨h2, (Array.getElem?_eq_some_iff.1 h3).1⟩
theorem Mine.far {lo hi cp : Nat} {w w' : World} {v : Value} {l : List It} (h : Mine lo hi cp w v l) (hb : Below w.heap.size w w') : Mine lo hi cp w' v l := by
  refine ⟨?_, h.at_, h.shape⟩
  obtain ⟨h0, h1 | ⟨g, cap, cur, h1, h2, h3, h4⟩⟩ := h.own
  · exact ⟨h0, .inl h1⟩
  · exact ⟨h0, .inr ⟨g, cap, cur, h1, h2, (hb.block g (Array.getElem?_eq_some_iff.1 h3).1).trans h3, h4⟩⟩
theorem Mine.belx {lo hi cp gt : Nat} {w w' : World} {v : Value} {l : List It} (h : Mine lo hi cp w v l) (hb : BelX (fun k => k = gt) w.heap.size w w') (hg : gt < lo ∨ hi ≤ gt) : Mine lo hi cp w' v l := by
  refine ⟨?_, h.at_, h.shape⟩
  have ha := h.at_
  obtain ⟨h0, h1 | ⟨g, cap, cur, rfl, h2, h3, h4⟩⟩ := h.own
  · exact ⟨h0, .inl h1⟩
  · have := ha g rfl
    exact ⟨h0, .inr ⟨g, cap, cur, rfl, h2, (hb.block g (Array.getElem?_eq_some_iff.1 h3).1 (by omega)).trans h3, h4⟩⟩
theorem Mine.rd {lo hi cp : Nat} {w : World} {v : Value} {l : List It} (h : Mine lo hi cp w v l) : ItRd (fun _ => True) w v l := by
  obtain ⟨h0, ⟨rfl, h1⟩ | ⟨g, cap, cur, rfl, h2, h3, h4, h5, h6, h7⟩⟩ := h.own
  · exact nil_rd rfl (List.eq_nil_of_length_eq_zero h1) (by unfold maxLen; omega)
  · refine ⟨_, cap, rfl, h4, h5, fun hp => ⟨g, 0, rfl, trivial, (Array.getElem?_eq_some_iff.1 h3).1, fun i hi => ?_⟩⟩
    obtain ⟨a1, a2, _, _⟩ := owns_cell h.own hi
    simp only [Nat.zero_add]
    exact ⟨a1, a2⟩
theorem Mine.no {lo hi cp : Nat} {w : World} {v : Value} {l : List It} (h : Mine lo hi cp w v l) : ∀ c, v = .slice none 0 c → c = 0 := by
  rcases h.shape with ⟨rfl, _⟩ | ⟨g, rfl⟩
  · intro c h
    cases h
    rfl
  · intro c h
    cases h
theorem Mine.sh {lo hi cp : Nat} {w : World} {v : Value} {l : List It} (h : Mine lo hi cp w v l) : ∃ p, v = .slice p l.length cp := by
  rcases h.shape with ⟨rfl, h1, h2⟩ | ⟨g, rfl⟩
  · exact ⟨none, by rw [h1, h2]⟩
  · exact ⟨_, rfl⟩
theorem own_rdA {W : World} {base n : Nat} {v : Value} {l : List It} (h : W.ownsRow base 27 2 v n (flat l)) : ItRd (fun _ => True) W v l := by
  have hn : n = l.length := by have := h.1; rw [flat_len] at this; omega
  subst hn
  have h' := h
  obtain ⟨h0, ⟨rfl, h1⟩ | ⟨g, cap, cur, rfl, h2, h3, h4, h5, h6, h7⟩⟩ := h'
  · exact nil_rd rfl (List.eq_nil_of_length_eq_zero h1) (by unfold maxLen; omega)
  · refine ⟨_, cap, rfl, h4, h5, fun hp => ⟨g, 0, rfl, trivial, (Array.getElem?_eq_some_iff.1 h3).1, fun i hi => ?_⟩⟩
    obtain ⟨a1, a2, _, _⟩ := owns_cell h hi
    simp only [Nat.zero_add]
    exact ⟨a1, a2⟩
/-- two items change places -/
theorem Mine.swap {lo hi cp g i k : Nat} {w : World} {c : List It} (h : Mine lo hi cp w (.slice (some ⟨g, 0, none⟩) c.length cp) c) (hi' : i < c.length) (hk : k < c.length) :
    Mine lo hi cp ((((w.setCell ⟨g, i * 2, none⟩ (.int .i64 c[k].1)).setCell ⟨g, i * 2 + 1, none⟩ (.int .i64 c[k].2)).setCell ⟨g, k * 2, none⟩ (.int .i64 c[i].1)).setCell ⟨g, k * 2 + 1, none⟩ (.int .i64 c[i].2)) (.slice (some ⟨g, 0, none⟩) c.length cp) ((c.set i c[k]).set k c[i]) := by
  have e : ((c.set i c[k]).set k c[i]).length = c.length := by simp
  refine ⟨?_, h.at_, .inr ⟨g, by rw [e]⟩⟩
  rw [e]
  exact owns_set (owns_set h.own hi' _) (by simpa using hk) _
structure Ent where
  v : Value
  l : List It
  lo : Nat
  hi : Nat
  cp : Nat
theorem apartL {w : World} {base gl : Nat} {L : List Ent} (hm : L.length ≤ 100) (hM : ∀ e ∈ L, Mine e.lo e.hi e.cp w e.v e.l ∧ base ≤ e.lo ∧ e.hi ≤ gl ∧ (e.cp + 1 ≤ 8796093022208 ∨ e.l.length + 4097 ≤ 8796093022208)) (hP : L.Pairwise (fun a b => a.hi ≤ b.lo ∨ b.hi ≤ a.lo))
    (hL : w.heap[gl]? = some (.cells (L.map Ent.v).toArray 22 (0, 0))) (hb : base ≤ w.heap.size) :
    Calls Try.prog 14 #[.slice (some ⟨gl, 0, none⟩) L.length L.length] w fun e w' => e = .returned (.bool true) ∧ Below base w w' := by
  have hE : ∀ j (hj : j < L.length), (L[j]?.getD ⟨undef, [], 0, 0, 0⟩) = L[j] := fun j hj => by rw [List.getElem?_eq_getElem hj]; rfl
  have hW := List.pairwise_iff_getElem.1 hP
  refine apart_any (v := fun j => (L[j]?.getD ⟨undef, [], 0, 0, 0⟩).v) (n := fun j => (L[j]?.getD ⟨undef, [], 0, 0, 0⟩).l.length) (cp := fun j => (L[j]?.getD ⟨undef, [], 0, 0, 0⟩).cp) (C0 := fun j => (L[j]?.getD ⟨undef, [], 0, 0, 0⟩).l) hm ?_ ?_ ?_ (Array.getElem?_eq_some_iff.1 hL).1 ?_ hb ?_ ?_
  · intro j hj
    simp only [hE j hj]
    obtain ⟨h1, h2, h3⟩ := hM _ (List.getElem_mem hj)
    exact owns_base h2 h1.own
  · intro i j hi hj hij k hki hkj
    simp only [hE i hi, hE j hj] at hki hkj
    have a1 := (hM _ (List.getElem_mem hi)).1.at_ k hki
    have a2 := (hM _ (List.getElem_mem hj)).1.at_ k hkj
    rcases Nat.lt_or_gt_of_ne hij with h | h
    · have := hW i j hi hj h
      omega
    · have := hW j i hj hi h
      omega
  · intro j hj
    simp only [hE j hj]
    rw [cell_of_row w gl j _ _ _ hL]
    simp [hj]
  · intro j hj e
    simp only [hE j hj] at e
    obtain ⟨h1, h2, h3, h4⟩ := hM _ (List.getElem_mem hj)
    have := h1.at_ gl e
    omega
  · intro j hj
    simp only [hE j hj]
    exact (hM _ (List.getElem_mem hj)).1.shape
  · intro j hj
    simp only [hE j hj]
    exact (hM _ (List.getElem_mem hj)).2.2.2

end Go.Proofs.Ytomieeajmelglaa

namespace Go.Proofs.Ytomieeajmelglaa
open Go.RowKit Go.Shelf
set_option linter.unusedVariables false
set_option linter.unusedSimpArgs false

set_option maxRecDepth 100000 in
set_option maxHeartbeats 8000000 in
theorem merges_any {w : World} {va vb : Value} {xs ys : List It} {o : Int} (ha : ItRd (fun _ => True) w va xs) (hb : ItRd (fun _ => True) w vb ys) (hna : ∀ c, va = .slice none 0 c → c = 0) (hnb : ∀ c, vb = .slice none 0 c → c = 0) (hl : xs.length ≤ 1048576) (hm : ys.length ≤ 1048576) :
    Calls Try.prog 4 #[va, vb, .int .i64 o] w fun e w' => e = .returned (.bool true) ∧ Below w.heap.size w w' := by
  have RX := hide ha
  have RY := hide hb
  have NB := hide hnb
  have RY0 := hide hb
  have CC := hide (lend2_any ha hna (by omega))
  obtain ⟨ao, ca, rfl, -, -, -⟩ := ha
  obtain ⟨bo, cb, rfl, -, -, -⟩ := hb
  have hZl : (mrg (byF o) xs ys).length = xs.length + ys.length := mrg_len _ _ _
  have hYl : (mrg (byF o) ys xs).length = ys.length + xs.length := mrg_len _ _ _
  have hNl : (fs1 (byF o) xs).length ≤ xs.length := fs1_le _ _
  obtain ⟨Z, hZ⟩ : ∃ s, mrg (byF o) xs ys = s := ⟨_, rfl⟩
  obtain ⟨Y, hY⟩ : ∃ s, mrg (byF o) ys xs = s := ⟨_, rfl⟩
  obtain ⟨N, hN⟩ : ∃ s, fs1 (byF o) xs = s := ⟨_, rfl⟩
  rw [hZ] at hZl
  rw [hY] at hYl
  rw [hN] at hNl
  have HZ := hide hZ
  have HY := hide hY
  have HN := hide hN
  have LZ := hide hZl
  have LY := hide hYl
  have LN := hide hNl
  clear hna hnb hZ hY hN hZl hYl hNl
  go_enter Try.func4, Try.ntmps4
  go_wp2_with fail
  refine CC.out.mono ?_
  rintro e w1 ⟨⟨gt, rfl, hL⟩, k⟩
  have LT := hide hL
  have MT := hide (Mine.of_lent hL)
  have KK := hide k
  have Z1 := hide k.size
  replace RX := hide (RX.out.far k)
  replace RY := hide (RY.out.far k)
  clear CC k hL
  have CC := hide (lend2_any RY.out NB.out (by omega))
  go_wp2_with fail
  refine CC.out.mono ?_
  rintro e w2 ⟨⟨gu, rfl, hL⟩, k⟩
  have LU := hide hL
  have MU := hide (Mine.of_lent hL)
  replace KK := hide (below_trans KK.out k)
  have Z2 := hide k.size
  replace RX := hide (RX.out.far k)
  replace RY := hide (RY.out.far k)
  replace LT := hide (LT.out.far k)
  replace MT := hide (MT.out.far k)
  clear CC k hL NB
  go_wp2_with (go_at_call 10; (with_reducible refine by_any.mono ?_); rintro e w2 ⟨rfl, rfl⟩)
  have CC := hide (merge_any (I := fun _ => True) (w := w2) MT.out.rd MU.out.rd (by omega) (by_is o) trivial (fun _ _ _ _ => trivial))
  go_wp2_with fail
  refine CC.out.mono ?_
  rintro e w3 ⟨⟨v, rfl, hO⟩, k⟩
  replace RX := hide (RX.out.far k)
  replace RY := hide (RY.out.far k)
  replace LT := hide (LT.out.far k)
  replace LU := hide (LU.out.far k)
  replace MT := hide (MT.out.far k)
  replace MU := hide (MU.out.far k)
  replace KK := hide (below_trans KK.out k)
  have Z3 := hide k.size
  rw [HZ.out] at hO
  have MA := hide (Mine.of_own hO)
  obtain ⟨pMA, eMA⟩ := MA.out.sh
  subst eMA
  clear hO
  clear CC k
  go_wp2_with (go_at_call 10; (with_reducible refine by_any.mono ?_); rintro e w3 ⟨rfl, rfl⟩)
  have CC := hide (merge_any (I := fun _ => True) (w := w3) MT.out.rd MU.out.rd (by omega) (by_is o) trivial (fun _ _ _ _ => trivial))
  go_wp2_with fail
  refine CC.out.mono ?_
  rintro e w4 ⟨⟨v, rfl, hO⟩, k⟩
  replace RX := hide (RX.out.far k)
  replace RY := hide (RY.out.far k)
  replace LT := hide (LT.out.far k)
  replace LU := hide (LU.out.far k)
  replace MT := hide (MT.out.far k)
  replace MU := hide (MU.out.far k)
  replace MA := hide (MA.out.far k)
  replace KK := hide (below_trans KK.out k)
  have Z4 := hide k.size
  rw [HZ.out] at hO
  have MB := hide (Mine.of_own hO)
  obtain ⟨pMB, eMB⟩ := MB.out.sh
  subst eMB
  clear hO
  clear CC k
  go_wp2_with (go_at_call 10; (with_reducible refine by_any.mono ?_); rintro e w4 ⟨rfl, rfl⟩)
  have CC := hide (unique_any (I := fun _ => True) (w := w4) MT.out.rd MT.out.no (by omega) (by_is o) trivial (fun _ _ _ _ => trivial))
  go_wp2_with fail
  refine CC.out.mono ?_
  rintro e w5 ⟨⟨v, rfl, hO⟩, k⟩
  replace RX := hide (RX.out.far k)
  replace RY := hide (RY.out.far k)
  replace LT := hide (LT.out.far k)
  replace LU := hide (LU.out.far k)
  replace MT := hide (MT.out.far k)
  replace MU := hide (MU.out.far k)
  replace MA := hide (MA.out.far k)
  replace MB := hide (MB.out.far k)
  replace KK := hide (below_trans KK.out k)
  have Z5 := hide k.size
  rw [unq_fs, HN.out] at hO
  obtain ⟨cMC, hMC⟩ := Mine.of_row hO
  have MC := hide hMC
  obtain ⟨pMC, eMC⟩ := MC.out.sh
  subst eMC
  clear hO hMC
  clear CC k
  go_wp2_with (go_at_call 10; (with_reducible refine by_any.mono ?_); rintro e w5 ⟨rfl, rfl⟩)
  have CC := hide (unique_any (I := fun _ => True) (w := w5) MT.out.rd MT.out.no (by omega) (by_is o) trivial (fun _ _ _ _ => trivial))
  go_wp2_with fail
  refine CC.out.mono ?_
  rintro e w6 ⟨⟨v, rfl, hO⟩, k⟩
  replace RX := hide (RX.out.far k)
  replace RY := hide (RY.out.far k)
  replace LT := hide (LT.out.far k)
  replace LU := hide (LU.out.far k)
  replace MT := hide (MT.out.far k)
  replace MU := hide (MU.out.far k)
  replace MA := hide (MA.out.far k)
  replace MB := hide (MB.out.far k)
  replace MC := hide (MC.out.far k)
  replace KK := hide (below_trans KK.out k)
  have Z6 := hide k.size
  rw [unq_fs, HN.out] at hO
  obtain ⟨cMD, hMD⟩ := Mine.of_row hO
  have MD := hide hMD
  obtain ⟨pMD, eMD⟩ := MD.out.sh
  subst eMD
  clear hO hMD
  clear CC k
  go_wp2_with (go_at_call 10; (with_reducible refine by_any.mono ?_); rintro e w6 ⟨rfl, rfl⟩)
  have CC := hide (merge_any (I := fun _ => True) (w := w6) MU.out.rd MT.out.rd (by omega) (by_is o) trivial (fun _ _ _ _ => trivial))
  go_wp2_with fail
  refine CC.out.mono ?_
  rintro e w7 ⟨⟨v, rfl, hO⟩, k⟩
  replace RX := hide (RX.out.far k)
  replace RY := hide (RY.out.far k)
  replace LT := hide (LT.out.far k)
  replace LU := hide (LU.out.far k)
  replace MT := hide (MT.out.far k)
  replace MU := hide (MU.out.far k)
  replace MA := hide (MA.out.far k)
  replace MB := hide (MB.out.far k)
  replace MC := hide (MC.out.far k)
  replace MD := hide (MD.out.far k)
  replace KK := hide (below_trans KK.out k)
  have Z7 := hide k.size
  rw [HY.out] at hO
  have ME := hide (Mine.of_own hO)
  obtain ⟨pME, eME⟩ := ME.out.sh
  subst eME
  clear hO
  clear CC k
  have CC := hide (rmerge_any (o := o) RX.out RY.out (by omega))
  rw [mrg_by, HZ.out] at CC
  go_wp2_with fail
  refine CC.out.mono ?_
  rintro e w8 ⟨⟨v, rfl, hO⟩, k⟩
  replace RX := hide (RX.out.far k)
  replace RY := hide (RY.out.far k)
  replace LT := hide (LT.out.far k)
  replace LU := hide (LU.out.far k)
  replace MT := hide (MT.out.far k)
  replace MU := hide (MU.out.far k)
  replace MA := hide (MA.out.far k)
  replace MB := hide (MB.out.far k)
  replace MC := hide (MC.out.far k)
  replace MD := hide (MD.out.far k)
  replace ME := hide (ME.out.far k)
  replace KK := hide (below_trans KK.out k)
  have Z8 := hide k.size
  obtain ⟨nMV, hO⟩ := hO
  obtain ⟨cMV, hMV⟩ := Mine.of_row hO
  have MV := hide hMV
  obtain ⟨pMV, eMV⟩ := MV.out.sh
  subst eMV
  clear hO hMV
  clear CC k
  have CC := hide (runique_any (o := o) RX.out (by omega))
  rw [fs1_by, HN.out] at CC
  go_wp2_with fail
  refine CC.out.mono ?_
  rintro e w9 ⟨⟨v, rfl, hO⟩, k⟩
  replace RX := hide (RX.out.far k)
  replace RY := hide (RY.out.far k)
  replace LT := hide (LT.out.far k)
  replace LU := hide (LU.out.far k)
  replace MT := hide (MT.out.far k)
  replace MU := hide (MU.out.far k)
  replace MA := hide (MA.out.far k)
  replace MB := hide (MB.out.far k)
  replace MC := hide (MC.out.far k)
  replace MD := hide (MD.out.far k)
  replace ME := hide (ME.out.far k)
  replace MV := hide (MV.out.far k)
  replace KK := hide (below_trans KK.out k)
  have Z9 := hide k.size
  obtain ⟨nMN, hO⟩ := hO
  obtain ⟨cMN, hMN⟩ := Mine.of_row hO
  have MN := hide hMN
  obtain ⟨pMN, eMN⟩ := MN.out.sh
  subst eMN
  clear hO hMN
  clear CC k
  have CC := hide (osame_any MA.out.rd MV.out.rd)
  go_wp2_with fail
  refine CC.out.mono ?_
  rintro e w10 ⟨rfl, k⟩
  replace RX := hide (RX.out.far k)
  replace RY := hide (RY.out.far k)
  replace LT := hide (LT.out.far k)
  replace LU := hide (LU.out.far k)
  replace MT := hide (MT.out.far k)
  replace MU := hide (MU.out.far k)
  replace MA := hide (MA.out.far k)
  replace MB := hide (MB.out.far k)
  replace MC := hide (MC.out.far k)
  replace MD := hide (MD.out.far k)
  replace ME := hide (ME.out.far k)
  replace MV := hide (MV.out.far k)
  replace MN := hide (MN.out.far k)
  replace KK := hide (below_trans KK.out k)
  have Z10 := hide k.size
  clear CC k
  have CC := hide (osame_any MB.out.rd MV.out.rd)
  go_wp2_with fail
  refine CC.out.mono ?_
  rintro e w11 ⟨rfl, k⟩
  replace RX := hide (RX.out.far k)
  replace RY := hide (RY.out.far k)
  replace LT := hide (LT.out.far k)
  replace LU := hide (LU.out.far k)
  replace MT := hide (MT.out.far k)
  replace MU := hide (MU.out.far k)
  replace MA := hide (MA.out.far k)
  replace MB := hide (MB.out.far k)
  replace MC := hide (MC.out.far k)
  replace MD := hide (MD.out.far k)
  replace ME := hide (ME.out.far k)
  replace MV := hide (MV.out.far k)
  replace MN := hide (MN.out.far k)
  replace KK := hide (below_trans KK.out k)
  have Z11 := hide k.size
  clear MV
  clear CC k
  have CC := hide (osame_any MC.out.rd MN.out.rd)
  go_wp2_with fail
  refine CC.out.mono ?_
  rintro e w12 ⟨rfl, k⟩
  replace RX := hide (RX.out.far k)
  replace RY := hide (RY.out.far k)
  replace LT := hide (LT.out.far k)
  replace LU := hide (LU.out.far k)
  replace MT := hide (MT.out.far k)
  replace MU := hide (MU.out.far k)
  replace MA := hide (MA.out.far k)
  replace MB := hide (MB.out.far k)
  replace MC := hide (MC.out.far k)
  replace MD := hide (MD.out.far k)
  replace ME := hide (ME.out.far k)
  replace MN := hide (MN.out.far k)
  replace KK := hide (below_trans KK.out k)
  have Z12 := hide k.size
  clear CC k
  have CC := hide (osame_any MD.out.rd MN.out.rd)
  go_wp2_with fail
  refine CC.out.mono ?_
  rintro e w13 ⟨rfl, k⟩
  replace RX := hide (RX.out.far k)
  replace RY := hide (RY.out.far k)
  replace LT := hide (LT.out.far k)
  replace LU := hide (LU.out.far k)
  replace MT := hide (MT.out.far k)
  replace MU := hide (MU.out.far k)
  replace MA := hide (MA.out.far k)
  replace MB := hide (MB.out.far k)
  replace MC := hide (MC.out.far k)
  replace MD := hide (MD.out.far k)
  replace ME := hide (ME.out.far k)
  replace MN := hide (MN.out.far k)
  replace KK := hide (below_trans KK.out k)
  have Z13 := hide k.size
  clear MN
  clear CC k
  have CC := hide (rmerge_any (o := o) RY.out RX.out (by omega))
  rw [mrg_by, HY.out] at CC
  go_wp2_with fail
  refine CC.out.mono ?_
  rintro e w14 ⟨⟨v, rfl, hO⟩, k⟩
  replace RX := hide (RX.out.far k)
  replace RY := hide (RY.out.far k)
  replace LT := hide (LT.out.far k)
  replace LU := hide (LU.out.far k)
  replace MT := hide (MT.out.far k)
  replace MU := hide (MU.out.far k)
  replace MA := hide (MA.out.far k)
  replace MB := hide (MB.out.far k)
  replace MC := hide (MC.out.far k)
  replace MD := hide (MD.out.far k)
  replace ME := hide (ME.out.far k)
  replace KK := hide (below_trans KK.out k)
  have Z14 := hide k.size
  obtain ⟨nMV, hO⟩ := hO
  obtain ⟨cMV, hMV⟩ := Mine.of_row hO
  have MV := hide hMV
  obtain ⟨pMV, eMV⟩ := MV.out.sh
  subst eMV
  clear hO hMV
  clear CC k
  have CC := hide (osame_any ME.out.rd MV.out.rd)
  go_wp2_with fail
  refine CC.out.mono ?_
  rintro e w15 ⟨rfl, k⟩
  replace RX := hide (RX.out.far k)
  replace RY := hide (RY.out.far k)
  replace LT := hide (LT.out.far k)
  replace LU := hide (LU.out.far k)
  replace MT := hide (MT.out.far k)
  replace MU := hide (MU.out.far k)
  replace MA := hide (MA.out.far k)
  replace MB := hide (MB.out.far k)
  replace MC := hide (MC.out.far k)
  replace MD := hide (MD.out.far k)
  replace ME := hide (ME.out.far k)
  replace MV := hide (MV.out.far k)
  replace KK := hide (below_trans KK.out k)
  have Z15 := hide k.size
  clear MV
  clear CC k
  have CC := hide (left_any LT.out RX.out (by omega))
  go_wp2_with fail
  refine CC.out.mono ?_
  rintro e w16 ⟨rfl, k⟩
  replace RX := hide (RX.out.far k)
  replace RY := hide (RY.out.far k)
  replace LT := hide (LT.out.far k)
  replace LU := hide (LU.out.far k)
  replace MT := hide (MT.out.far k)
  replace MU := hide (MU.out.far k)
  replace MA := hide (MA.out.far k)
  replace MB := hide (MB.out.far k)
  replace MC := hide (MC.out.far k)
  replace MD := hide (MD.out.far k)
  replace ME := hide (ME.out.far k)
  replace KK := hide (below_trans KK.out k)
  have Z16 := hide k.size
  clear LT RX
  clear CC k
  have CC := hide (left_any LU.out RY.out (by omega))
  go_wp2_with fail
  refine CC.out.mono ?_
  rintro e w17 ⟨rfl, k⟩
  replace RY := hide (RY.out.far k)
  replace LU := hide (LU.out.far k)
  replace MT := hide (MT.out.far k)
  replace MU := hide (MU.out.far k)
  replace MA := hide (MA.out.far k)
  replace MB := hide (MB.out.far k)
  replace MC := hide (MC.out.far k)
  replace MD := hide (MD.out.far k)
  replace ME := hide (ME.out.far k)
  replace KK := hide (below_trans KK.out k)
  have Z17 := hide k.size
  clear LU
  clear CC k
  go_wp2_with fail
  refine merge_nil.mono ?_
  rintro e w18 ⟨rfl, k⟩
  replace RY := hide (RY.out.far k)
  replace MT := hide (MT.out.far k)
  replace MU := hide (MU.out.far k)
  replace MA := hide (MA.out.far k)
  replace MB := hide (MB.out.far k)
  replace MC := hide (MC.out.far k)
  replace MD := hide (MD.out.far k)
  replace ME := hide (ME.out.far k)
  replace KK := hide (below_trans KK.out k)
  have Z18 := hide k.size
  clear k
  go_wp2_with fail
  refine unique_nil.mono ?_
  rintro e w19 ⟨rfl, k⟩
  replace RY := hide (RY.out.far k)
  replace MT := hide (MT.out.far k)
  replace MU := hide (MU.out.far k)
  replace MA := hide (MA.out.far k)
  replace MB := hide (MB.out.far k)
  replace MC := hide (MC.out.far k)
  replace MD := hide (MD.out.far k)
  replace ME := hide (ME.out.far k)
  replace KK := hide (below_trans KK.out k)
  have Z19 := hide k.size
  clear k
  obtain ⟨h, hh⟩ : ∃ h, xs.length / 2 = h := ⟨_, rfl⟩
  have hq : (xs.length : Int) / 2 = (h : Int) := by omega
  have hq2 : (xs.length : Int).tdiv 2 = (h : Int) := by rw [Int.tdiv_eq_ediv_of_nonneg (by omega)]; omega
  have hgt : Hid (w.heap.size ≤ gt ∧ gt < w1.heap.size) := hide (MT.out.at_ gt rfl)
  have HH := hide hh
  clear hh RY
  go_wp2
  go_loopw [16, 17] (fun p q wr => ∃ (i : Nat) (c : List It), p = .int .i64 i ∧ i ≤ h ∧ Hid (c.length = xs.length) ∧ Hid (Mine w.heap.size w1.heap.size (xs.length + 4) wr (.slice (some ⟨gt, 0, none⟩) xs.length (xs.length + 4)) c) ∧ Hid (BelX (fun k => k = gt) w19.heap.size w19 wr)) (fun p _ _ => h - (intOf p).toNat)
  case atStart => exact ⟨0, xs, rfl, by omega, hide rfl, MT, hide (BelX.refl _ _ _)⟩
  case round =>
    clear MT
    obtain ⟨i, c, rfl, hi, hcl, hM, hX⟩ := hrel
    by_cases hil : i < h
    · have q1 : (i : Int) < (h : Int) := by omega
      obtain ⟨k, hk⟩ : ∃ k, xs.length - 1 - i = k := ⟨_, rfl⟩
      have hH := HH.out
      have w1' : IntKind.i64.wrap ((xs.length : Int) - 1) = (xs.length : Int) - 1 := by rw [IntKind.wrap_i64]; omega
      have w2' : IntKind.i64.wrap ((xs.length : Int) - 1 - (i : Int)) = (k : Int) := by rw [IntKind.wrap_i64]; omega
      have w3' : IntKind.i64.wrap ((i : Int) + 1) = (i : Int) + 1 := by rw [IntKind.wrap_i64]; omega
      have q2 : (i : Int) < (xs.length : Int) := by omega
      have q3 : (k : Int) < (xs.length : Int) := by omega
      have hik : i < c.length := by rw [hcl.out]; omega
      have hkk : k < c.length := by rw [hcl.out]; omega
      have hM' := hM.out
      rw [← hcl.out] at hM'
      obtain ⟨a1, a2, a3, a4⟩ := owns_cell (c := c) (show wr.ownsRow w.heap.size 27 2 (.slice (some ⟨gt, 0, none⟩) c.length (c.length + 4)) c.length (flat c) from hM'.own) hik
      obtain ⟨b1, b2, b3, b4⟩ := owns_cell (c := c) (show wr.ownsRow w.heap.size 27 2 (.slice (some ⟨gt, 0, none⟩) c.length (c.length + 4)) c.length (flat c) from hM'.own) hkk
      have SW := hM'.swap hik hkk
      obtain ⟨⟨x1, x2⟩, hx⟩ : ∃ x, c[i] = x := ⟨_, rfl⟩
      obtain ⟨⟨y1, y2⟩, hy⟩ : ∃ x, c[k] = x := ⟨_, rfl⟩
      rw [hx] at a1 a2 SW
      rw [hy] at b1 b2 SW
      have hlen : ((c.set i (y1, y2)).set k (x1, x2)).length = xs.length := by simpa using hcl.out
      rw [hcl.out] at SW
      simp only at SW a1 a2 b1 b2
      have HLN := hide hlen
      have HSW := hide (SW.far ((Below.refl _ _).drew))
      have HX2 := hide (((((hX.out.trans (belx_set (i := i * 2) wr (.int .i64 y1) (rfl : gt = gt))).trans (belx_set (i := i * 2 + 1) _ (.int .i64 y2) (rfl : gt = gt))).trans (belx_set (i := k * 2) _ (.int .i64 x1) (rfl : gt = gt))).trans (belx_set (i := k * 2 + 1) _ (.int .i64 x2) (rfl : gt = gt))).trans (BelX.of ((Below.refl _ _).drew) (by have := hX.out.size; simpa using this)))
      have hki : k ≠ i := by omega
      have hki' : i ≠ k := by omega
      have n1 : ¬ k * 2 = i * 2 + 1 := by omega
      have n2 : ¬ k * 2 + 1 = i * 2 := by omega
      have n3 : ¬ i * 2 = k * 2 + 1 := by omega
      have n4 : ¬ i * 2 + 1 = k * 2 := by omega
      clear hM' hx hy hlen SW hik hkk hH hk
      go_wp2
      go_region
      go_wp2
      go_roundw
      case rel => exact ⟨i + 1, _, by simp, by omega, HLN, HSW, HX2⟩
      case measure => simp [intOf]; omega
    · have q1 : ¬ (i : Int) < (h : Int) := by omega
      have bx := hX.out
      have t0 := hgt.out
      have z1 := Z1.out
      have z2 := Z2.out
      have z3 := Z3.out
      have z4 := Z4.out
      have z5 := Z5.out
      have z6 := Z6.out
      have z7 := Z7.out
      have z8 := Z8.out
      have z9 := Z9.out
      have z10 := Z10.out
      have z11 := Z11.out
      have z12 := Z12.out
      have z13 := Z13.out
      have z14 := Z14.out
      have z15 := Z15.out
      have z16 := Z16.out
      have z17 := Z17.out
      have z18 := Z18.out
      have z19 := Z19.out
      replace MU := hide (MU.out.belx bx (by omega))
      replace MA := hide (MA.out.belx bx (by omega))
      replace MB := hide (MB.out.belx bx (by omega))
      replace MC := hide (MC.out.belx bx (by omega))
      replace MD := hide (MD.out.belx bx (by omega))
      replace ME := hide (ME.out.belx bx (by omega))
      replace KK := hide (KK.out.trans (bx.below (B := w.heap.size) (by omega) (fun k hk e => by omega)))
      have Z20 := hide bx.size
      have RY := hide (RY0.out.far KK.out)
      have MT := hM
      clear bx t0 hM hX RY0 z1 z2 z3 z4 z5 z6 z7 z8 z9 z10 z11 z12 z13 z14 z15 z16 z17 z18 z19
      have hZ3l : (mrg (byF o) c ys).length = xs.length + ys.length := by rw [mrg_len, hcl.out]
      have hN3l : (fs1 (byF o) c).length ≤ xs.length := by rw [← hcl.out]; exact fs1_le _ _
      obtain ⟨Z', hZ'⟩ : ∃ s, mrg (byF o) c ys = s := ⟨_, rfl⟩
      obtain ⟨N', hN'⟩ : ∃ s, fs1 (byF o) c = s := ⟨_, rfl⟩
      rw [hZ'] at hZ3l
      rw [hN'] at hN3l
      have HZ3 := hide hZ'
      have HN3 := hide hN'
      have LZ3 := hide hZ3l
      have LN3 := hide hN3l
      clear hZ' hN' hZ3l hN3l
      go_wp2_with (go_at_call 10; (with_reducible refine by_any.mono ?_); rintro e w20 ⟨rfl, rfl⟩)
      have CC := hide (merge_any (I := fun _ => True) (w := w20) MT.out.rd MU.out.rd (by rw [hcl.out]; omega) (by_is o) trivial (fun _ _ _ _ => trivial))
      go_wp2_with fail
      refine CC.out.mono ?_
      rintro e w21 ⟨⟨v, rfl, hO⟩, k⟩
      replace RY := hide (RY.out.far k)
      replace MT := hide (MT.out.far k)
      replace MU := hide (MU.out.far k)
      replace MA := hide (MA.out.far k)
      replace MB := hide (MB.out.far k)
      replace MC := hide (MC.out.far k)
      replace MD := hide (MD.out.far k)
      replace ME := hide (ME.out.far k)
      replace KK := hide (below_trans KK.out k)
      have Z21 := hide k.size
      rw [HZ3.out] at hO
      have MF := hide (Mine.of_own hO)
      obtain ⟨pMF, eMF⟩ := MF.out.sh
      subst eMF
      clear hO
      clear CC k
      go_wp2_with (go_at_call 10; (with_reducible refine by_any.mono ?_); rintro e w21 ⟨rfl, rfl⟩)
      have CC := hide (unique_any (I := fun _ => True) (w := w21) MT.out.rd MT.out.no (by rw [hcl.out]; omega) (by_is o) trivial (fun _ _ _ _ => trivial))
      go_wp2_with fail
      refine CC.out.mono ?_
      rintro e w22 ⟨⟨v, rfl, hO⟩, k⟩
      replace RY := hide (RY.out.far k)
      replace MT := hide (MT.out.far k)
      replace MU := hide (MU.out.far k)
      replace MA := hide (MA.out.far k)
      replace MB := hide (MB.out.far k)
      replace MC := hide (MC.out.far k)
      replace MD := hide (MD.out.far k)
      replace ME := hide (ME.out.far k)
      replace MF := hide (MF.out.far k)
      replace KK := hide (below_trans KK.out k)
      have Z22 := hide k.size
      rw [unq_fs, HN3.out] at hO
      obtain ⟨cMG, hMG⟩ := Mine.of_row hO
      have MG := hide hMG
      obtain ⟨pMG, eMG⟩ := MG.out.sh
      subst eMG
      clear hO hMG
      clear CC k
      have OW : Hid ((w22.alloc (.cells #[] 27)).ownsRow w22.heap.size 27 2 (.slice (some ⟨w22.heap.size, 0, none⟩) 0 0) 0 []) := hide (World.ownsRow_made w22 _ 0 (Nat.le_refl _) (by unfold maxLen; omega) (by simp))
      go_wp2_with (at_builtin; refine wpList_append_items rfl _ _ rfl w22.heap.size _ 0 [] rfl OW.out _ c rfl (MT.out.rd.far ((Below.refl _ _).alloc (Nat.le_refl _) _)) MT.out.no (by rw [hcl.out]; unfold maxLen; omega) (by rw [hcl.out]; omega) (by simp) ?_)
      intro v4 w23 own4 bel4
      have k : Below w22.heap.size w22 w23 := ((Below.refl _ w22).alloc (Nat.le_refl _) _).trans bel4
      have RC := hide (own_rdA own4)
      obtain ⟨p4, c4, e4, -, -, -⟩ := RC.out
      subst e4
      have Z23 := hide k.size
      replace RY := hide (RY.out.far k)
      replace MT := hide (MT.out.far k)
      replace MU := hide (MU.out.far k)
      replace MA := hide (MA.out.far k)
      replace MB := hide (MB.out.far k)
      replace MC := hide (MC.out.far k)
      replace MD := hide (MD.out.far k)
      replace ME := hide (ME.out.far k)
      replace MF := hide (MF.out.far k)
      replace MG := hide (MG.out.far k)
      replace KK := hide (below_trans KK.out k)
      clear k own4 bel4 OW
      have CC := hide (rmerge_any (o := o) RC.out RY.out (by rw [hcl.out]; omega))
      rw [mrg_by, HZ3.out] at CC
      go_wp2_with fail
      refine CC.out.mono ?_
      rintro e w24 ⟨⟨v, rfl, hO⟩, k⟩
      replace RY := hide (RY.out.far k)
      replace MT := hide (MT.out.far k)
      replace MU := hide (MU.out.far k)
      replace MA := hide (MA.out.far k)
      replace MB := hide (MB.out.far k)
      replace MC := hide (MC.out.far k)
      replace MD := hide (MD.out.far k)
      replace ME := hide (ME.out.far k)
      replace MF := hide (MF.out.far k)
      replace MG := hide (MG.out.far k)
      replace RC := hide (RC.out.far k)
      replace KK := hide (below_trans KK.out k)
      have Z24 := hide k.size
      obtain ⟨nMV, hO⟩ := hO
      obtain ⟨cMV, hMV⟩ := Mine.of_row hO
      have MV := hide hMV
      obtain ⟨pMV, eMV⟩ := MV.out.sh
      subst eMV
      clear hO hMV
      clear CC k
      have CC := hide (osame_any MF.out.rd MV.out.rd)
      go_wp2_with fail
      refine CC.out.mono ?_
      rintro e w25 ⟨rfl, k⟩
      replace RY := hide (RY.out.far k)
      replace MT := hide (MT.out.far k)
      replace MU := hide (MU.out.far k)
      replace MA := hide (MA.out.far k)
      replace MB := hide (MB.out.far k)
      replace MC := hide (MC.out.far k)
      replace MD := hide (MD.out.far k)
      replace ME := hide (ME.out.far k)
      replace MF := hide (MF.out.far k)
      replace MG := hide (MG.out.far k)
      replace RC := hide (RC.out.far k)
      replace KK := hide (below_trans KK.out k)
      have Z25 := hide k.size
      clear MV
      clear CC k
      have CC := hide (runique_any (o := o) RC.out (by rw [hcl.out]; omega))
      rw [fs1_by, HN3.out] at CC
      go_wp2_with fail
      refine CC.out.mono ?_
      rintro e w26 ⟨⟨v, rfl, hO⟩, k⟩
      replace RY := hide (RY.out.far k)
      replace MT := hide (MT.out.far k)
      replace MU := hide (MU.out.far k)
      replace MA := hide (MA.out.far k)
      replace MB := hide (MB.out.far k)
      replace MC := hide (MC.out.far k)
      replace MD := hide (MD.out.far k)
      replace ME := hide (ME.out.far k)
      replace MF := hide (MF.out.far k)
      replace MG := hide (MG.out.far k)
      replace RC := hide (RC.out.far k)
      replace KK := hide (below_trans KK.out k)
      have Z26 := hide k.size
      obtain ⟨nMV, hO⟩ := hO
      obtain ⟨cMV, hMV⟩ := Mine.of_row hO
      have MV := hide hMV
      obtain ⟨pMV, eMV⟩ := MV.out.sh
      subst eMV
      clear hO hMV
      clear CC k
      have CC := hide (osame_any MG.out.rd MV.out.rd)
      go_wp2_with fail
      refine CC.out.mono ?_
      rintro e w27 ⟨rfl, k⟩
      replace RY := hide (RY.out.far k)
      replace MT := hide (MT.out.far k)
      replace MU := hide (MU.out.far k)
      replace MA := hide (MA.out.far k)
      replace MB := hide (MB.out.far k)
      replace MC := hide (MC.out.far k)
      replace MD := hide (MD.out.far k)
      replace ME := hide (ME.out.far k)
      replace MF := hide (MF.out.far k)
      replace MG := hide (MG.out.far k)
      replace RC := hide (RC.out.far k)
      replace KK := hide (below_trans KK.out k)
      have Z27 := hide k.size
      clear MV RC
      clear CC k
      obtain ⟨W28, hW28⟩ : ∃ u, w27.alloc (.cells #[.slice pMA Z.length Z.length, .slice pMB Z.length Z.length, .slice pMC N.length cMC, .slice pMD N.length cMD, .slice pME Y.length Y.length, .slice pMF Z'.length Z'.length, .slice pMG N'.length cMG, .slice (some ⟨gt, 0, none⟩) xs.length (xs.length + 4), .slice (some ⟨gu, 0, none⟩) ys.length (ys.length + 4)] 22) = u := ⟨_, rfl⟩
      have k : Below w27.heap.size w27 W28 := by rw [← hW28]; exact (Below.refl _ w27).alloc (Nat.le_refl _) _
      have hgl : W28.heap[w27.heap.size]? = some (.cells #[.slice pMA Z.length Z.length, .slice pMB Z.length Z.length, .slice pMC N.length cMC, .slice pMD N.length cMD, .slice pME Y.length Y.length, .slice pMF Z'.length Z'.length, .slice pMG N'.length cMG, .slice (some ⟨gt, 0, none⟩) xs.length (xs.length + 4), .slice (some ⟨gu, 0, none⟩) ys.length (ys.length + 4)] 22 (0, 0)) := by rw [← hW28]; exact heap_alloc_new w27 _
      replace MT := hide (MT.out.far k)
      replace MU := hide (MU.out.far k)
      replace MA := hide (MA.out.far k)
      replace MB := hide (MB.out.far k)
      replace MC := hide (MC.out.far k)
      replace MD := hide (MD.out.far k)
      replace ME := hide (ME.out.far k)
      replace MF := hide (MF.out.far k)
      replace MG := hide (MG.out.far k)
      replace KK := hide (below_trans KK.out k)
      have AL : Hid (Calls Try.prog 14 #[.slice (some ⟨w27.heap.size, 0, none⟩) 9 9] W28 fun e w' => e = .returned (.bool true) ∧ Below w.heap.size W28 w') := hide (by
        have z1 := Z1.out
        have z2 := Z2.out
        have z3 := Z3.out
        have z4 := Z4.out
        have z5 := Z5.out
        have z6 := Z6.out
        have z7 := Z7.out
        have z8 := Z8.out
        have z9 := Z9.out
        have z10 := Z10.out
        have z11 := Z11.out
        have z12 := Z12.out
        have z13 := Z13.out
        have z14 := Z14.out
        have z15 := Z15.out
        have z16 := Z16.out
        have z17 := Z17.out
        have z18 := Z18.out
        have z19 := Z19.out
        have z20 := Z20.out
        have z21 := Z21.out
        have z22 := Z22.out
        have z23 := Z23.out
        have z24 := Z24.out
        have z25 := Z25.out
        have z26 := Z26.out
        have z27 := Z27.out
        have zk := k.size
        have y1 := LZ.out
        have y2 := LY.out
        have y3 := LN.out
        have y4 := LZ3.out
        have y5 := LN3.out
        have y6 := hcl.out
        refine apartL (L := [⟨.slice pMA Z.length Z.length, Z, w2.heap.size, w3.heap.size, Z.length⟩, ⟨.slice pMB Z.length Z.length, Z, w3.heap.size, w4.heap.size, Z.length⟩, ⟨.slice pMC N.length cMC, N, w4.heap.size, w5.heap.size, cMC⟩, ⟨.slice pMD N.length cMD, N, w5.heap.size, w6.heap.size, cMD⟩, ⟨.slice pME Y.length Y.length, Y, w6.heap.size, w7.heap.size, Y.length⟩, ⟨.slice pMF Z'.length Z'.length, Z', w20.heap.size, w21.heap.size, Z'.length⟩, ⟨.slice pMG N'.length cMG, N', w21.heap.size, w22.heap.size, cMG⟩, ⟨.slice (some ⟨gt, 0, none⟩) xs.length (xs.length + 4), c, w.heap.size, w1.heap.size, xs.length + 4⟩, ⟨.slice (some ⟨gu, 0, none⟩) ys.length (ys.length + 4), ys, w1.heap.size, w2.heap.size, ys.length + 4⟩]) (by simp) ?_ ?_ hgl (by omega)
        · intro e he
          simp only [List.mem_cons, List.not_mem_nil, or_false] at he
          rcases he with rfl | rfl | rfl | rfl | rfl | rfl | rfl | rfl | rfl
          · exact ⟨MA.out, by show w.heap.size ≤ w2.heap.size; omega, by show w3.heap.size ≤ w27.heap.size; omega, .inr (by show Z.length + 4097 ≤ _; omega)⟩
          · exact ⟨MB.out, by show w.heap.size ≤ w3.heap.size; omega, by show w4.heap.size ≤ w27.heap.size; omega, .inr (by show Z.length + 4097 ≤ _; omega)⟩
          · exact ⟨MC.out, by show w.heap.size ≤ w4.heap.size; omega, by show w5.heap.size ≤ w27.heap.size; omega, .inr (by show N.length + 4097 ≤ _; omega)⟩
          · exact ⟨MD.out, by show w.heap.size ≤ w5.heap.size; omega, by show w6.heap.size ≤ w27.heap.size; omega, .inr (by show N.length + 4097 ≤ _; omega)⟩
          · exact ⟨ME.out, by show w.heap.size ≤ w6.heap.size; omega, by show w7.heap.size ≤ w27.heap.size; omega, .inr (by show Y.length + 4097 ≤ _; omega)⟩
          · exact ⟨MF.out, by show w.heap.size ≤ w20.heap.size; omega, by show w21.heap.size ≤ w27.heap.size; omega, .inr (by show Z'.length + 4097 ≤ _; omega)⟩
          · exact ⟨MG.out, by show w.heap.size ≤ w21.heap.size; omega, by show w22.heap.size ≤ w27.heap.size; omega, .inr (by show N'.length + 4097 ≤ _; omega)⟩
          · exact ⟨MT.out, by show w.heap.size ≤ w.heap.size; omega, by show w1.heap.size ≤ w27.heap.size; omega, .inr (by show c.length + 4097 ≤ _; omega)⟩
          · exact ⟨MU.out, by show w.heap.size ≤ w1.heap.size; omega, by show w2.heap.size ≤ w27.heap.size; omega, .inr (by show ys.length + 4097 ≤ _; omega)⟩
        · simp only [List.pairwise_cons, List.mem_cons, List.not_mem_nil, or_false, forall_eq_or_imp, forall_eq, false_implies, implies_true, List.Pairwise.nil, and_true]
          refine ⟨?_, ?_, ?_, ?_, ?_, ?_, ?_, ?_⟩ <;> omega)
      clear hgl k MA MB MC MD ME MF MG MT MU RY
      go_wp2_with fail
      try rw [hW28]
      refine AL.out.mono ?_
      rintro e w29 ⟨rfl, k⟩
      replace KK := hide (KK.out.trans k)
      clear k AL hW28
      go_wp2_with fail
      refine olives.mono ?_
      rintro e w30 ⟨rfl, k⟩
      replace KK := hide (below_trans KK.out k)
      clear k
      go_wp2
      go_ret
      exact ⟨rfl, KK.out⟩

end Go.Proofs.Ytomieeajmelglaa
