/- ref10.Quote; EscapeQuotes: the walk -/
import Derived.Test.YtegokdhmpopggaaDoorXdY
import Derived.Test.YtegokdhmpopggaaDoorXdX
import Derived.Test.YtegokdhmpopggaaDoorXLen
namespace Go.Proofs.YtegokdhmpopggaaDoor
open Go.RowKit
set_option linter.unusedVariables false

theorem cells_new (w : World) (E : TypeId) (ys : List Int) : Cells .u8 (w.alloc (.cells (ys.map (Value.int .u8)).toArray E)) (some ⟨w.heap.size, 0, none⟩) ys := by
  intro hy
  refine ⟨_, 0, rfl, by simp, fun i hi => ?_⟩
  rw [Lib.cell_of_heap (heap_alloc_new w _)]
  simp [Nt.lb, hi]
theorem own_one {w : World} {B : Nat} (hB : B ≤ w.heap.size) (x : Int) : (w.alloc (.cells #[.int .u8 x] 5)).ownsRow B 5 1 (.slice (some ⟨w.heap.size, 0, none⟩) 1 1) 1 ([x].map (Value.int .u8)) :=
  ⟨rfl, Or.inr ⟨_, 1, _, rfl, hB, heap_alloc_new w _, Nat.le_refl _, by unfold maxLen; omega, rfl, rfl⟩⟩
/-- what is quoted so far -/
def qs (ls : List Int) (j : Nat) : List Int := [34] ++ (ls.take j).flatMap xEsc
theorem qs_step {ls : List Int} {j : Nat} {c : Int} (h : j < ls.length) (hc : Nt.lb ls j = c) : qs ls (j + 1) = qs ls j ++ xEsc c := by
  unfold qs
  rw [List.take_add_one, List.getElem?_eq_getElem h]
  have e : ls[j] = c := by rw [← hc]; simp [Nt.lb, h]
  simp [e]
theorem xEsc_six (c : Int) : (xEsc c).length ≤ 6 := by
  unfold xEsc
  repeat' split
  all_goals simp
theorem qs_len (ls : List Int) (j : Nat) : (qs ls j).length ≤ 1 + 6 * j := by
  induction j with
  | zero => simp [qs]
  | succ j ih =>
    by_cases h : j < ls.length
    · rw [qs_step h rfl, List.length_append]
      have := xEsc_six (Nt.lb ls j)
      omega
    · have e : qs ls (j + 1) = qs ls j := by
        unfold qs
        rw [List.take_of_length_le (by omega), List.take_of_length_le (by omega)]
      rw [e]; omega
theorem q_next {w u w2 : World} {B : Nat} {v v' : Value} {xs ys zs : List Int} (hz : zs = xs ++ ys) (ho : u.ownsRow B 5 1 v xs.length (xs.map (Value.int .u8))) (hb : Below B w u) (hB : B ≤ u.heap.size) (hn : w2.ownsRow B 5 1 v' (xs.length + ys.length) ((xs ++ ys).map (Value.int .u8))) (hg : u.grownBy w2 v.ownBlock) :
    w2.ownsRow B 5 1 v' zs.length (zs.map (Value.int .u8)) ∧ Below B w w2 := by
  subst hz
  refine ⟨by rw [List.length_append]; exact hn, hg.os.trans hb.os, hg.tape.trans hb.tape, hg.output.trans hb.output, Nat.le_trans hb.size hg.size, fun k hk => ?_⟩
  rw [hg.block k (by omega) (fun e => by have := (ho.lt k e.symm).1; omega), hb.block k hk]
def RQ (w : World) (ls : List Int) (e : Ending) (w' : World) : Prop := e = .returned (.tuple #[.string (strOfNums (if xTxt .inn ls then xQ ls else [])), .bool (xTxt .inn ls)]) ∧ Below w.heap.size w w'
set_option maxRecDepth 100000 in
set_option maxHeartbeats 8000000 in
theorem rquote {w : World} {s : ByteArray} {ls : List Int} (hb : uByt ls) (hs : s = strOfNums ls) (hl : ls.length ≤ 1048576) : Calls Tryd.prog 10 #[.string s] w (RQ w ls) := by
  have hsz : s.size = ls.length := by rw [hs, strOfNums_size]
  have Hix := hide (show ∀ q (g : q < s.size), (((s[q]'g).toNat : Nat) : Int) = Nt.lb ls q from fun q g => by subst hs; exact utxt_at g hb)
  have HBy := hide (show ∀ q, q < ls.length → 0 ≤ Nt.lb ls q ∧ Nt.lb ls q < 256 from fun q g => by have := hb _ (List.getElem_mem g); simpa [Nt.lb, g] using this)
  have C0 := hide (ristext (w := w) hb hs (by omega))
  have HLL := hide hl
  obtain ⟨L, hL⟩ : ∃ L, ls.length = L := ⟨_, rfl⟩
  have HL := hide hL
  rw [hL] at hsz
  have hLb : L ≤ 1048576 := by omega
  clear hb hs hl hL
  cases hx : xTxt .inn ls with
  | false =>
    have HF := hide (show ∀ W, Below w.heap.size w W → RQ w ls (.returned (.tuple #[.string ⟨#[]⟩, .bool false])) W from fun W hW => ⟨by rw [hx]; rfl, hW⟩)
    unfold RTx at C0
    rw [hx] at C0
    clear hx
    go_enter Tryd.func10, Tryd.ntmps10
    go_wp2_with fail
    refine C0.out.mono ?_
    rintro e w1 ⟨rfl, b1⟩
    have FIN := hide (HF.out w1 b1)
    clear b1 C0
    go_wp2
    go_ret2
    exact FIN.out
  | true =>
    obtain ⟨B, hBB⟩ : ∃ B, w.heap.size = B := ⟨_, rfl⟩
    have HF := hide (show ∀ W, Below B w W → RQ w ls (.returned (.tuple #[.string (strOfNums (xQ ls)), .bool true])) W from fun W hW => ⟨by rw [hx]; rfl, by rw [hBB]; exact hW⟩)
    unfold RTx at C0
    rw [hx, hBB] at C0
    clear hx
    go_enter Tryd.func10, Tryd.ntmps10
    go_wp2_with fail
    refine C0.out.mono ?_
    rintro e w1 ⟨rfl, b1⟩
    have hB1 : B ≤ w1.heap.size := by have := b1.size; omega
    have HO0 := hide (show (w1.alloc (.cells #[.int .u8 34] 5)).ownsRow B 5 1 (.slice (some ⟨w1.heap.size, 0, none⟩) 1 1) (qs ls 0).length ((qs ls 0).map (Value.int .u8)) from own_one hB1 34)
    have HB0 := hide (show Below B w (w1.alloc (.cells #[.int .u8 34] 5)) from b1.trans ((Below.refl B w1).alloc hB1 _))
    clear b1 C0
    go_wp2
    obtain ⟨W0, hW0⟩ : ∃ W0, w1.alloc (.cells #[.int .u8 34] 5) = W0 := ⟨_, rfl⟩
    try rw [hW0]
    rw [hW0] at HO0 HB0
    obtain ⟨g0, hg0⟩ : ∃ g0, w1.heap.size = g0 := ⟨_, rfl⟩
    try rw [hg0]
    rw [hg0] at HO0
    clear hW0 hg0 hB1
    go_loopg [4, 5, 6] L (fun c v4 i x6 wr => ∃ (j : Nat), j ≤ L ∧ i = .int .i64 j ∧ c = L - j ∧ Hid (wr.ownsRow B 5 1 v4 (qs ls j).length ((qs ls j).map (Value.int .u8))) ∧ Hid (Below B w wr))
    case atStart => exact ⟨0, by omega, rfl, by omega, HO0, HB0⟩
    case round =>
      rename_i v4 _
      obtain ⟨j, h2, rfl, hc, HO, HB⟩ := hrel
      have hBw : B ≤ wr.heap.size := by have := HB.out.size; omega
      have hql := qs_len ls j
      by_cases hj : j < L
      · have p1 : (j : Int) < (L : Int) := by omega
        have p2 : (0 : Int) ≤ (j : Int) := by omega
        have hLe := HL.out
        have hjc : j < s.size := by omega
        have hix := Hix.out j hjc
        have hcb := HBy.out j (by omega)
        obtain ⟨c, hcc⟩ : ∃ c, Nt.lb ls j = c := ⟨_, rfl⟩
        have hq := qs_step (by omega : j < ls.length) hcc
        rw [hcc] at hix hcb
        have p3 : (j : Int) + 1 ≤ 9223372036854775807 := by omega
        obtain ⟨xs, hxs⟩ : ∃ xs, qs ls j = xs := ⟨_, rfl⟩
        rw [hxs] at HO hq hql
        have HQ := hide hq
        have hxl : xs.length ≤ 6291457 := by omega
        clear hcc hLe hxs hq hql
        by_cases k34 : c = 34
        · subst k34
          have e : xEsc 34 = [92, 34] := by decide
          rw [e] at HQ
          clear e hcb
          go_wp2_with
            (first
              | (at_builtin; refine dwpList_append _ rfl _ _ 48 rfl B 5 .u8 1 Tryd.underlying48 Tryd.infoY8 _ xs.length xs rfl (HO.out.alloc _) (some ⟨wr.heap.size, 0, none⟩) 2 [92, 34] rfl (cells_new wr 5 [92, 34]) (by simp) (by unfold maxLen; simp; omega) (by simp; omega) (by simp; omega) ?_; intro v' w2 hown' hgrow hsame
                 have N := hide (q_next HQ.out (HO.out.alloc _) (HB.out.trans ((Below.refl B wr).alloc hBw _)) (by simp; omega) hown' hgrow)
                 clear hown' hgrow hsame)
              | fail)
          go_roundg (L - (j + 1))
          case measure => omega
          case rel => exact ⟨j + 1, by omega, by go_num, rfl, hide N.out.1, hide N.out.2⟩
        by_cases k92 : c = 92
        · subst k92
          have e : xEsc 92 = [92, 92] := by decide
          rw [e] at HQ
          clear e hcb k34
          go_wp2_with
            (first
              | (at_builtin; refine dwpList_append _ rfl _ _ 48 rfl B 5 .u8 1 Tryd.underlying48 Tryd.infoY8 _ xs.length xs rfl (HO.out.alloc _) (some ⟨wr.heap.size, 0, none⟩) 2 [92, 92] rfl (cells_new wr 5 [92, 92]) (by simp) (by unfold maxLen; simp; omega) (by simp; omega) (by simp; omega) ?_; intro v' w2 hown' hgrow hsame
                 have N := hide (q_next HQ.out (HO.out.alloc _) (HB.out.trans ((Below.refl B wr).alloc hBw _)) (by simp; omega) hown' hgrow)
                 clear hown' hgrow hsame)
              | fail)
          go_roundg (L - (j + 1))
          case measure => omega
          case rel => exact ⟨j + 1, by omega, by go_num, rfl, hide N.out.1, hide N.out.2⟩
        by_cases k0 : c = 0
        · subst k0
          have e : xEsc 0 = [92, 117, 48, 48, 48, 48] := by decide
          rw [e] at HQ
          clear e hcb k34 k92
          go_wp2_with
            (first
              | (at_builtin; refine dwpList_append _ rfl _ _ 48 rfl B 5 .u8 1 Tryd.underlying48 Tryd.infoY8 _ xs.length xs rfl (HO.out.alloc _) (some ⟨wr.heap.size, 0, none⟩) 6 [92, 117, 48, 48, 48, 48] rfl (cells_new wr 5 [92, 117, 48, 48, 48, 48]) (by simp) (by unfold maxLen; simp; omega) (by simp; omega) (by simp; omega) ?_; intro v' w2 hown' hgrow hsame
                 have N := hide (q_next HQ.out (HO.out.alloc _) (HB.out.trans ((Below.refl B wr).alloc hBw _)) (by simp; omega) hown' hgrow)
                 clear hown' hgrow hsame)
              | fail)
          go_roundg (L - (j + 1))
          case measure => omega
          case rel => exact ⟨j + 1, by omega, by go_num, rfl, hide N.out.1, hide N.out.2⟩
        by_cases k1 : c = 1
        · subst k1
          have e : xEsc 1 = [92, 117, 48, 48, 48, 49] := by decide
          rw [e] at HQ
          clear e hcb k34 k92 k0
          go_wp2_with
            (first
              | (at_builtin; refine dwpList_append _ rfl _ _ 48 rfl B 5 .u8 1 Tryd.underlying48 Tryd.infoY8 _ xs.length xs rfl (HO.out.alloc _) (some ⟨wr.heap.size, 0, none⟩) 6 [92, 117, 48, 48, 48, 49] rfl (cells_new wr 5 [92, 117, 48, 48, 48, 49]) (by simp) (by unfold maxLen; simp; omega) (by simp; omega) (by simp; omega) ?_; intro v' w2 hown' hgrow hsame
                 have N := hide (q_next HQ.out (HO.out.alloc _) (HB.out.trans ((Below.refl B wr).alloc hBw _)) (by simp; omega) hown' hgrow)
                 clear hown' hgrow hsame)
              | fail)
          go_roundg (L - (j + 1))
          case measure => omega
          case rel => exact ⟨j + 1, by omega, by go_num, rfl, hide N.out.1, hide N.out.2⟩
        by_cases k2 : c = 2
        · subst k2
          have e : xEsc 2 = [92, 117, 48, 48, 48, 50] := by decide
          rw [e] at HQ
          clear e hcb k34 k92 k0 k1
          go_wp2_with
            (first
              | (at_builtin; refine dwpList_append _ rfl _ _ 48 rfl B 5 .u8 1 Tryd.underlying48 Tryd.infoY8 _ xs.length xs rfl (HO.out.alloc _) (some ⟨wr.heap.size, 0, none⟩) 6 [92, 117, 48, 48, 48, 50] rfl (cells_new wr 5 [92, 117, 48, 48, 48, 50]) (by simp) (by unfold maxLen; simp; omega) (by simp; omega) (by simp; omega) ?_; intro v' w2 hown' hgrow hsame
                 have N := hide (q_next HQ.out (HO.out.alloc _) (HB.out.trans ((Below.refl B wr).alloc hBw _)) (by simp; omega) hown' hgrow)
                 clear hown' hgrow hsame)
              | fail)
          go_roundg (L - (j + 1))
          case measure => omega
          case rel => exact ⟨j + 1, by omega, by go_num, rfl, hide N.out.1, hide N.out.2⟩
        by_cases k3 : c = 3
        · subst k3
          have e : xEsc 3 = [92, 117, 48, 48, 48, 51] := by decide
          rw [e] at HQ
          clear e hcb k34 k92 k0 k1 k2
          go_wp2_with
            (first
              | (at_builtin; refine dwpList_append _ rfl _ _ 48 rfl B 5 .u8 1 Tryd.underlying48 Tryd.infoY8 _ xs.length xs rfl (HO.out.alloc _) (some ⟨wr.heap.size, 0, none⟩) 6 [92, 117, 48, 48, 48, 51] rfl (cells_new wr 5 [92, 117, 48, 48, 48, 51]) (by simp) (by unfold maxLen; simp; omega) (by simp; omega) (by simp; omega) ?_; intro v' w2 hown' hgrow hsame
                 have N := hide (q_next HQ.out (HO.out.alloc _) (HB.out.trans ((Below.refl B wr).alloc hBw _)) (by simp; omega) hown' hgrow)
                 clear hown' hgrow hsame)
              | fail)
          go_roundg (L - (j + 1))
          case measure => omega
          case rel => exact ⟨j + 1, by omega, by go_num, rfl, hide N.out.1, hide N.out.2⟩
        by_cases k4 : c = 4
        · subst k4
          have e : xEsc 4 = [92, 117, 48, 48, 48, 52] := by decide
          rw [e] at HQ
          clear e hcb k34 k92 k0 k1 k2 k3
          go_wp2_with
            (first
              | (at_builtin; refine dwpList_append _ rfl _ _ 48 rfl B 5 .u8 1 Tryd.underlying48 Tryd.infoY8 _ xs.length xs rfl (HO.out.alloc _) (some ⟨wr.heap.size, 0, none⟩) 6 [92, 117, 48, 48, 48, 52] rfl (cells_new wr 5 [92, 117, 48, 48, 48, 52]) (by simp) (by unfold maxLen; simp; omega) (by simp; omega) (by simp; omega) ?_; intro v' w2 hown' hgrow hsame
                 have N := hide (q_next HQ.out (HO.out.alloc _) (HB.out.trans ((Below.refl B wr).alloc hBw _)) (by simp; omega) hown' hgrow)
                 clear hown' hgrow hsame)
              | fail)
          go_roundg (L - (j + 1))
          case measure => omega
          case rel => exact ⟨j + 1, by omega, by go_num, rfl, hide N.out.1, hide N.out.2⟩
        by_cases k5 : c = 5
        · subst k5
          have e : xEsc 5 = [92, 117, 48, 48, 48, 53] := by decide
          rw [e] at HQ
          clear e hcb k34 k92 k0 k1 k2 k3 k4
          go_wp2_with
            (first
              | (at_builtin; refine dwpList_append _ rfl _ _ 48 rfl B 5 .u8 1 Tryd.underlying48 Tryd.infoY8 _ xs.length xs rfl (HO.out.alloc _) (some ⟨wr.heap.size, 0, none⟩) 6 [92, 117, 48, 48, 48, 53] rfl (cells_new wr 5 [92, 117, 48, 48, 48, 53]) (by simp) (by unfold maxLen; simp; omega) (by simp; omega) (by simp; omega) ?_; intro v' w2 hown' hgrow hsame
                 have N := hide (q_next HQ.out (HO.out.alloc _) (HB.out.trans ((Below.refl B wr).alloc hBw _)) (by simp; omega) hown' hgrow)
                 clear hown' hgrow hsame)
              | fail)
          go_roundg (L - (j + 1))
          case measure => omega
          case rel => exact ⟨j + 1, by omega, by go_num, rfl, hide N.out.1, hide N.out.2⟩
        by_cases k6 : c = 6
        · subst k6
          have e : xEsc 6 = [92, 117, 48, 48, 48, 54] := by decide
          rw [e] at HQ
          clear e hcb k34 k92 k0 k1 k2 k3 k4 k5
          go_wp2_with
            (first
              | (at_builtin; refine dwpList_append _ rfl _ _ 48 rfl B 5 .u8 1 Tryd.underlying48 Tryd.infoY8 _ xs.length xs rfl (HO.out.alloc _) (some ⟨wr.heap.size, 0, none⟩) 6 [92, 117, 48, 48, 48, 54] rfl (cells_new wr 5 [92, 117, 48, 48, 48, 54]) (by simp) (by unfold maxLen; simp; omega) (by simp; omega) (by simp; omega) ?_; intro v' w2 hown' hgrow hsame
                 have N := hide (q_next HQ.out (HO.out.alloc _) (HB.out.trans ((Below.refl B wr).alloc hBw _)) (by simp; omega) hown' hgrow)
                 clear hown' hgrow hsame)
              | fail)
          go_roundg (L - (j + 1))
          case measure => omega
          case rel => exact ⟨j + 1, by omega, by go_num, rfl, hide N.out.1, hide N.out.2⟩
        by_cases k7 : c = 7
        · subst k7
          have e : xEsc 7 = [92, 117, 48, 48, 48, 55] := by decide
          rw [e] at HQ
          clear e hcb k34 k92 k0 k1 k2 k3 k4 k5 k6
          go_wp2_with
            (first
              | (at_builtin; refine dwpList_append _ rfl _ _ 48 rfl B 5 .u8 1 Tryd.underlying48 Tryd.infoY8 _ xs.length xs rfl (HO.out.alloc _) (some ⟨wr.heap.size, 0, none⟩) 6 [92, 117, 48, 48, 48, 55] rfl (cells_new wr 5 [92, 117, 48, 48, 48, 55]) (by simp) (by unfold maxLen; simp; omega) (by simp; omega) (by simp; omega) ?_; intro v' w2 hown' hgrow hsame
                 have N := hide (q_next HQ.out (HO.out.alloc _) (HB.out.trans ((Below.refl B wr).alloc hBw _)) (by simp; omega) hown' hgrow)
                 clear hown' hgrow hsame)
              | fail)
          go_roundg (L - (j + 1))
          case measure => omega
          case rel => exact ⟨j + 1, by omega, by go_num, rfl, hide N.out.1, hide N.out.2⟩
        by_cases k8 : c = 8
        · subst k8
          have e : xEsc 8 = [92, 98] := by decide
          rw [e] at HQ
          clear e hcb k34 k92 k0 k1 k2 k3 k4 k5 k6 k7
          go_wp2_with
            (first
              | (at_builtin; refine dwpList_append _ rfl _ _ 48 rfl B 5 .u8 1 Tryd.underlying48 Tryd.infoY8 _ xs.length xs rfl (HO.out.alloc _) (some ⟨wr.heap.size, 0, none⟩) 2 [92, 98] rfl (cells_new wr 5 [92, 98]) (by simp) (by unfold maxLen; simp; omega) (by simp; omega) (by simp; omega) ?_; intro v' w2 hown' hgrow hsame
                 have N := hide (q_next HQ.out (HO.out.alloc _) (HB.out.trans ((Below.refl B wr).alloc hBw _)) (by simp; omega) hown' hgrow)
                 clear hown' hgrow hsame)
              | fail)
          go_roundg (L - (j + 1))
          case measure => omega
          case rel => exact ⟨j + 1, by omega, by go_num, rfl, hide N.out.1, hide N.out.2⟩
        by_cases k9 : c = 9
        · subst k9
          have e : xEsc 9 = [92, 116] := by decide
          rw [e] at HQ
          clear e hcb k34 k92 k0 k1 k2 k3 k4 k5 k6 k7 k8
          go_wp2_with
            (first
              | (at_builtin; refine dwpList_append _ rfl _ _ 48 rfl B 5 .u8 1 Tryd.underlying48 Tryd.infoY8 _ xs.length xs rfl (HO.out.alloc _) (some ⟨wr.heap.size, 0, none⟩) 2 [92, 116] rfl (cells_new wr 5 [92, 116]) (by simp) (by unfold maxLen; simp; omega) (by simp; omega) (by simp; omega) ?_; intro v' w2 hown' hgrow hsame
                 have N := hide (q_next HQ.out (HO.out.alloc _) (HB.out.trans ((Below.refl B wr).alloc hBw _)) (by simp; omega) hown' hgrow)
                 clear hown' hgrow hsame)
              | fail)
          go_roundg (L - (j + 1))
          case measure => omega
          case rel => exact ⟨j + 1, by omega, by go_num, rfl, hide N.out.1, hide N.out.2⟩
        by_cases k10 : c = 10
        · subst k10
          have e : xEsc 10 = [92, 110] := by decide
          rw [e] at HQ
          clear e hcb k34 k92 k0 k1 k2 k3 k4 k5 k6 k7 k8 k9
          go_wp2_with
            (first
              | (at_builtin; refine dwpList_append _ rfl _ _ 48 rfl B 5 .u8 1 Tryd.underlying48 Tryd.infoY8 _ xs.length xs rfl (HO.out.alloc _) (some ⟨wr.heap.size, 0, none⟩) 2 [92, 110] rfl (cells_new wr 5 [92, 110]) (by simp) (by unfold maxLen; simp; omega) (by simp; omega) (by simp; omega) ?_; intro v' w2 hown' hgrow hsame
                 have N := hide (q_next HQ.out (HO.out.alloc _) (HB.out.trans ((Below.refl B wr).alloc hBw _)) (by simp; omega) hown' hgrow)
                 clear hown' hgrow hsame)
              | fail)
          go_roundg (L - (j + 1))
          case measure => omega
          case rel => exact ⟨j + 1, by omega, by go_num, rfl, hide N.out.1, hide N.out.2⟩
        by_cases k11 : c = 11
        · subst k11
          have e : xEsc 11 = [92, 117, 48, 48, 48, 98] := by decide
          rw [e] at HQ
          clear e hcb k34 k92 k0 k1 k2 k3 k4 k5 k6 k7 k8 k9 k10
          go_wp2_with
            (first
              | (at_builtin; refine dwpList_append _ rfl _ _ 48 rfl B 5 .u8 1 Tryd.underlying48 Tryd.infoY8 _ xs.length xs rfl (HO.out.alloc _) (some ⟨wr.heap.size, 0, none⟩) 6 [92, 117, 48, 48, 48, 98] rfl (cells_new wr 5 [92, 117, 48, 48, 48, 98]) (by simp) (by unfold maxLen; simp; omega) (by simp; omega) (by simp; omega) ?_; intro v' w2 hown' hgrow hsame
                 have N := hide (q_next HQ.out (HO.out.alloc _) (HB.out.trans ((Below.refl B wr).alloc hBw _)) (by simp; omega) hown' hgrow)
                 clear hown' hgrow hsame)
              | fail)
          go_roundg (L - (j + 1))
          case measure => omega
          case rel => exact ⟨j + 1, by omega, by go_num, rfl, hide N.out.1, hide N.out.2⟩
        by_cases k12 : c = 12
        · subst k12
          have e : xEsc 12 = [92, 102] := by decide
          rw [e] at HQ
          clear e hcb k34 k92 k0 k1 k2 k3 k4 k5 k6 k7 k8 k9 k10 k11
          go_wp2_with
            (first
              | (at_builtin; refine dwpList_append _ rfl _ _ 48 rfl B 5 .u8 1 Tryd.underlying48 Tryd.infoY8 _ xs.length xs rfl (HO.out.alloc _) (some ⟨wr.heap.size, 0, none⟩) 2 [92, 102] rfl (cells_new wr 5 [92, 102]) (by simp) (by unfold maxLen; simp; omega) (by simp; omega) (by simp; omega) ?_; intro v' w2 hown' hgrow hsame
                 have N := hide (q_next HQ.out (HO.out.alloc _) (HB.out.trans ((Below.refl B wr).alloc hBw _)) (by simp; omega) hown' hgrow)
                 clear hown' hgrow hsame)
              | fail)
          go_roundg (L - (j + 1))
          case measure => omega
          case rel => exact ⟨j + 1, by omega, by go_num, rfl, hide N.out.1, hide N.out.2⟩
        by_cases k13 : c = 13
        · subst k13
          have e : xEsc 13 = [92, 114] := by decide
          rw [e] at HQ
          clear e hcb k34 k92 k0 k1 k2 k3 k4 k5 k6 k7 k8 k9 k10 k11 k12
          go_wp2_with
            (first
              | (at_builtin; refine dwpList_append _ rfl _ _ 48 rfl B 5 .u8 1 Tryd.underlying48 Tryd.infoY8 _ xs.length xs rfl (HO.out.alloc _) (some ⟨wr.heap.size, 0, none⟩) 2 [92, 114] rfl (cells_new wr 5 [92, 114]) (by simp) (by unfold maxLen; simp; omega) (by simp; omega) (by simp; omega) ?_; intro v' w2 hown' hgrow hsame
                 have N := hide (q_next HQ.out (HO.out.alloc _) (HB.out.trans ((Below.refl B wr).alloc hBw _)) (by simp; omega) hown' hgrow)
                 clear hown' hgrow hsame)
              | fail)
          go_roundg (L - (j + 1))
          case measure => omega
          case rel => exact ⟨j + 1, by omega, by go_num, rfl, hide N.out.1, hide N.out.2⟩
        by_cases k14 : c = 14
        · subst k14
          have e : xEsc 14 = [92, 117, 48, 48, 48, 101] := by decide
          rw [e] at HQ
          clear e hcb k34 k92 k0 k1 k2 k3 k4 k5 k6 k7 k8 k9 k10 k11 k12 k13
          go_wp2_with
            (first
              | (at_builtin; refine dwpList_append _ rfl _ _ 48 rfl B 5 .u8 1 Tryd.underlying48 Tryd.infoY8 _ xs.length xs rfl (HO.out.alloc _) (some ⟨wr.heap.size, 0, none⟩) 6 [92, 117, 48, 48, 48, 101] rfl (cells_new wr 5 [92, 117, 48, 48, 48, 101]) (by simp) (by unfold maxLen; simp; omega) (by simp; omega) (by simp; omega) ?_; intro v' w2 hown' hgrow hsame
                 have N := hide (q_next HQ.out (HO.out.alloc _) (HB.out.trans ((Below.refl B wr).alloc hBw _)) (by simp; omega) hown' hgrow)
                 clear hown' hgrow hsame)
              | fail)
          go_roundg (L - (j + 1))
          case measure => omega
          case rel => exact ⟨j + 1, by omega, by go_num, rfl, hide N.out.1, hide N.out.2⟩
        by_cases k15 : c = 15
        · subst k15
          have e : xEsc 15 = [92, 117, 48, 48, 48, 102] := by decide
          rw [e] at HQ
          clear e hcb k34 k92 k0 k1 k2 k3 k4 k5 k6 k7 k8 k9 k10 k11 k12 k13 k14
          go_wp2_with
            (first
              | (at_builtin; refine dwpList_append _ rfl _ _ 48 rfl B 5 .u8 1 Tryd.underlying48 Tryd.infoY8 _ xs.length xs rfl (HO.out.alloc _) (some ⟨wr.heap.size, 0, none⟩) 6 [92, 117, 48, 48, 48, 102] rfl (cells_new wr 5 [92, 117, 48, 48, 48, 102]) (by simp) (by unfold maxLen; simp; omega) (by simp; omega) (by simp; omega) ?_; intro v' w2 hown' hgrow hsame
                 have N := hide (q_next HQ.out (HO.out.alloc _) (HB.out.trans ((Below.refl B wr).alloc hBw _)) (by simp; omega) hown' hgrow)
                 clear hown' hgrow hsame)
              | fail)
          go_roundg (L - (j + 1))
          case measure => omega
          case rel => exact ⟨j + 1, by omega, by go_num, rfl, hide N.out.1, hide N.out.2⟩
        by_cases k16 : c = 16
        · subst k16
          have e : xEsc 16 = [92, 117, 48, 48, 49, 48] := by decide
          rw [e] at HQ
          clear e hcb k34 k92 k0 k1 k2 k3 k4 k5 k6 k7 k8 k9 k10 k11 k12 k13 k14 k15
          go_wp2_with
            (first
              | (at_builtin; refine dwpList_append _ rfl _ _ 48 rfl B 5 .u8 1 Tryd.underlying48 Tryd.infoY8 _ xs.length xs rfl (HO.out.alloc _) (some ⟨wr.heap.size, 0, none⟩) 6 [92, 117, 48, 48, 49, 48] rfl (cells_new wr 5 [92, 117, 48, 48, 49, 48]) (by simp) (by unfold maxLen; simp; omega) (by simp; omega) (by simp; omega) ?_; intro v' w2 hown' hgrow hsame
                 have N := hide (q_next HQ.out (HO.out.alloc _) (HB.out.trans ((Below.refl B wr).alloc hBw _)) (by simp; omega) hown' hgrow)
                 clear hown' hgrow hsame)
              | fail)
          go_roundg (L - (j + 1))
          case measure => omega
          case rel => exact ⟨j + 1, by omega, by go_num, rfl, hide N.out.1, hide N.out.2⟩
        by_cases k17 : c = 17
        · subst k17
          have e : xEsc 17 = [92, 117, 48, 48, 49, 49] := by decide
          rw [e] at HQ
          clear e hcb k34 k92 k0 k1 k2 k3 k4 k5 k6 k7 k8 k9 k10 k11 k12 k13 k14 k15 k16
          go_wp2_with
            (first
              | (at_builtin; refine dwpList_append _ rfl _ _ 48 rfl B 5 .u8 1 Tryd.underlying48 Tryd.infoY8 _ xs.length xs rfl (HO.out.alloc _) (some ⟨wr.heap.size, 0, none⟩) 6 [92, 117, 48, 48, 49, 49] rfl (cells_new wr 5 [92, 117, 48, 48, 49, 49]) (by simp) (by unfold maxLen; simp; omega) (by simp; omega) (by simp; omega) ?_; intro v' w2 hown' hgrow hsame
                 have N := hide (q_next HQ.out (HO.out.alloc _) (HB.out.trans ((Below.refl B wr).alloc hBw _)) (by simp; omega) hown' hgrow)
                 clear hown' hgrow hsame)
              | fail)
          go_roundg (L - (j + 1))
          case measure => omega
          case rel => exact ⟨j + 1, by omega, by go_num, rfl, hide N.out.1, hide N.out.2⟩
        by_cases k18 : c = 18
        · subst k18
          have e : xEsc 18 = [92, 117, 48, 48, 49, 50] := by decide
          rw [e] at HQ
          clear e hcb k34 k92 k0 k1 k2 k3 k4 k5 k6 k7 k8 k9 k10 k11 k12 k13 k14 k15 k16 k17
          go_wp2_with
            (first
              | (at_builtin; refine dwpList_append _ rfl _ _ 48 rfl B 5 .u8 1 Tryd.underlying48 Tryd.infoY8 _ xs.length xs rfl (HO.out.alloc _) (some ⟨wr.heap.size, 0, none⟩) 6 [92, 117, 48, 48, 49, 50] rfl (cells_new wr 5 [92, 117, 48, 48, 49, 50]) (by simp) (by unfold maxLen; simp; omega) (by simp; omega) (by simp; omega) ?_; intro v' w2 hown' hgrow hsame
                 have N := hide (q_next HQ.out (HO.out.alloc _) (HB.out.trans ((Below.refl B wr).alloc hBw _)) (by simp; omega) hown' hgrow)
                 clear hown' hgrow hsame)
              | fail)
          go_roundg (L - (j + 1))
          case measure => omega
          case rel => exact ⟨j + 1, by omega, by go_num, rfl, hide N.out.1, hide N.out.2⟩
        by_cases k19 : c = 19
        · subst k19
          have e : xEsc 19 = [92, 117, 48, 48, 49, 51] := by decide
          rw [e] at HQ
          clear e hcb k34 k92 k0 k1 k2 k3 k4 k5 k6 k7 k8 k9 k10 k11 k12 k13 k14 k15 k16 k17 k18
          go_wp2_with
            (first
              | (at_builtin; refine dwpList_append _ rfl _ _ 48 rfl B 5 .u8 1 Tryd.underlying48 Tryd.infoY8 _ xs.length xs rfl (HO.out.alloc _) (some ⟨wr.heap.size, 0, none⟩) 6 [92, 117, 48, 48, 49, 51] rfl (cells_new wr 5 [92, 117, 48, 48, 49, 51]) (by simp) (by unfold maxLen; simp; omega) (by simp; omega) (by simp; omega) ?_; intro v' w2 hown' hgrow hsame
                 have N := hide (q_next HQ.out (HO.out.alloc _) (HB.out.trans ((Below.refl B wr).alloc hBw _)) (by simp; omega) hown' hgrow)
                 clear hown' hgrow hsame)
              | fail)
          go_roundg (L - (j + 1))
          case measure => omega
          case rel => exact ⟨j + 1, by omega, by go_num, rfl, hide N.out.1, hide N.out.2⟩
        by_cases k20 : c = 20
        · subst k20
          have e : xEsc 20 = [92, 117, 48, 48, 49, 52] := by decide
          rw [e] at HQ
          clear e hcb k34 k92 k0 k1 k2 k3 k4 k5 k6 k7 k8 k9 k10 k11 k12 k13 k14 k15 k16 k17 k18 k19
          go_wp2_with
            (first
              | (at_builtin; refine dwpList_append _ rfl _ _ 48 rfl B 5 .u8 1 Tryd.underlying48 Tryd.infoY8 _ xs.length xs rfl (HO.out.alloc _) (some ⟨wr.heap.size, 0, none⟩) 6 [92, 117, 48, 48, 49, 52] rfl (cells_new wr 5 [92, 117, 48, 48, 49, 52]) (by simp) (by unfold maxLen; simp; omega) (by simp; omega) (by simp; omega) ?_; intro v' w2 hown' hgrow hsame
                 have N := hide (q_next HQ.out (HO.out.alloc _) (HB.out.trans ((Below.refl B wr).alloc hBw _)) (by simp; omega) hown' hgrow)
                 clear hown' hgrow hsame)
              | fail)
          go_roundg (L - (j + 1))
          case measure => omega
          case rel => exact ⟨j + 1, by omega, by go_num, rfl, hide N.out.1, hide N.out.2⟩
        by_cases k21 : c = 21
        · subst k21
          have e : xEsc 21 = [92, 117, 48, 48, 49, 53] := by decide
          rw [e] at HQ
          clear e hcb k34 k92 k0 k1 k2 k3 k4 k5 k6 k7 k8 k9 k10 k11 k12 k13 k14 k15 k16 k17 k18 k19 k20
          go_wp2_with
            (first
              | (at_builtin; refine dwpList_append _ rfl _ _ 48 rfl B 5 .u8 1 Tryd.underlying48 Tryd.infoY8 _ xs.length xs rfl (HO.out.alloc _) (some ⟨wr.heap.size, 0, none⟩) 6 [92, 117, 48, 48, 49, 53] rfl (cells_new wr 5 [92, 117, 48, 48, 49, 53]) (by simp) (by unfold maxLen; simp; omega) (by simp; omega) (by simp; omega) ?_; intro v' w2 hown' hgrow hsame
                 have N := hide (q_next HQ.out (HO.out.alloc _) (HB.out.trans ((Below.refl B wr).alloc hBw _)) (by simp; omega) hown' hgrow)
                 clear hown' hgrow hsame)
              | fail)
          go_roundg (L - (j + 1))
          case measure => omega
          case rel => exact ⟨j + 1, by omega, by go_num, rfl, hide N.out.1, hide N.out.2⟩
        by_cases k22 : c = 22
        · subst k22
          have e : xEsc 22 = [92, 117, 48, 48, 49, 54] := by decide
          rw [e] at HQ
          clear e hcb k34 k92 k0 k1 k2 k3 k4 k5 k6 k7 k8 k9 k10 k11 k12 k13 k14 k15 k16 k17 k18 k19 k20 k21
          go_wp2_with
            (first
              | (at_builtin; refine dwpList_append _ rfl _ _ 48 rfl B 5 .u8 1 Tryd.underlying48 Tryd.infoY8 _ xs.length xs rfl (HO.out.alloc _) (some ⟨wr.heap.size, 0, none⟩) 6 [92, 117, 48, 48, 49, 54] rfl (cells_new wr 5 [92, 117, 48, 48, 49, 54]) (by simp) (by unfold maxLen; simp; omega) (by simp; omega) (by simp; omega) ?_; intro v' w2 hown' hgrow hsame
                 have N := hide (q_next HQ.out (HO.out.alloc _) (HB.out.trans ((Below.refl B wr).alloc hBw _)) (by simp; omega) hown' hgrow)
                 clear hown' hgrow hsame)
              | fail)
          go_roundg (L - (j + 1))
          case measure => omega
          case rel => exact ⟨j + 1, by omega, by go_num, rfl, hide N.out.1, hide N.out.2⟩
        by_cases k23 : c = 23
        · subst k23
          have e : xEsc 23 = [92, 117, 48, 48, 49, 55] := by decide
          rw [e] at HQ
          clear e hcb k34 k92 k0 k1 k2 k3 k4 k5 k6 k7 k8 k9 k10 k11 k12 k13 k14 k15 k16 k17 k18 k19 k20 k21 k22
          go_wp2_with
            (first
              | (at_builtin; refine dwpList_append _ rfl _ _ 48 rfl B 5 .u8 1 Tryd.underlying48 Tryd.infoY8 _ xs.length xs rfl (HO.out.alloc _) (some ⟨wr.heap.size, 0, none⟩) 6 [92, 117, 48, 48, 49, 55] rfl (cells_new wr 5 [92, 117, 48, 48, 49, 55]) (by simp) (by unfold maxLen; simp; omega) (by simp; omega) (by simp; omega) ?_; intro v' w2 hown' hgrow hsame
                 have N := hide (q_next HQ.out (HO.out.alloc _) (HB.out.trans ((Below.refl B wr).alloc hBw _)) (by simp; omega) hown' hgrow)
                 clear hown' hgrow hsame)
              | fail)
          go_roundg (L - (j + 1))
          case measure => omega
          case rel => exact ⟨j + 1, by omega, by go_num, rfl, hide N.out.1, hide N.out.2⟩
        by_cases k24 : c = 24
        · subst k24
          have e : xEsc 24 = [92, 117, 48, 48, 49, 56] := by decide
          rw [e] at HQ
          clear e hcb k34 k92 k0 k1 k2 k3 k4 k5 k6 k7 k8 k9 k10 k11 k12 k13 k14 k15 k16 k17 k18 k19 k20 k21 k22 k23
          go_wp2_with
            (first
              | (at_builtin; refine dwpList_append _ rfl _ _ 48 rfl B 5 .u8 1 Tryd.underlying48 Tryd.infoY8 _ xs.length xs rfl (HO.out.alloc _) (some ⟨wr.heap.size, 0, none⟩) 6 [92, 117, 48, 48, 49, 56] rfl (cells_new wr 5 [92, 117, 48, 48, 49, 56]) (by simp) (by unfold maxLen; simp; omega) (by simp; omega) (by simp; omega) ?_; intro v' w2 hown' hgrow hsame
                 have N := hide (q_next HQ.out (HO.out.alloc _) (HB.out.trans ((Below.refl B wr).alloc hBw _)) (by simp; omega) hown' hgrow)
                 clear hown' hgrow hsame)
              | fail)
          go_roundg (L - (j + 1))
          case measure => omega
          case rel => exact ⟨j + 1, by omega, by go_num, rfl, hide N.out.1, hide N.out.2⟩
        by_cases k25 : c = 25
        · subst k25
          have e : xEsc 25 = [92, 117, 48, 48, 49, 57] := by decide
          rw [e] at HQ
          clear e hcb k34 k92 k0 k1 k2 k3 k4 k5 k6 k7 k8 k9 k10 k11 k12 k13 k14 k15 k16 k17 k18 k19 k20 k21 k22 k23 k24
          go_wp2_with
            (first
              | (at_builtin; refine dwpList_append _ rfl _ _ 48 rfl B 5 .u8 1 Tryd.underlying48 Tryd.infoY8 _ xs.length xs rfl (HO.out.alloc _) (some ⟨wr.heap.size, 0, none⟩) 6 [92, 117, 48, 48, 49, 57] rfl (cells_new wr 5 [92, 117, 48, 48, 49, 57]) (by simp) (by unfold maxLen; simp; omega) (by simp; omega) (by simp; omega) ?_; intro v' w2 hown' hgrow hsame
                 have N := hide (q_next HQ.out (HO.out.alloc _) (HB.out.trans ((Below.refl B wr).alloc hBw _)) (by simp; omega) hown' hgrow)
                 clear hown' hgrow hsame)
              | fail)
          go_roundg (L - (j + 1))
          case measure => omega
          case rel => exact ⟨j + 1, by omega, by go_num, rfl, hide N.out.1, hide N.out.2⟩
        by_cases k26 : c = 26
        · subst k26
          have e : xEsc 26 = [92, 117, 48, 48, 49, 97] := by decide
          rw [e] at HQ
          clear e hcb k34 k92 k0 k1 k2 k3 k4 k5 k6 k7 k8 k9 k10 k11 k12 k13 k14 k15 k16 k17 k18 k19 k20 k21 k22 k23 k24 k25
          go_wp2_with
            (first
              | (at_builtin; refine dwpList_append _ rfl _ _ 48 rfl B 5 .u8 1 Tryd.underlying48 Tryd.infoY8 _ xs.length xs rfl (HO.out.alloc _) (some ⟨wr.heap.size, 0, none⟩) 6 [92, 117, 48, 48, 49, 97] rfl (cells_new wr 5 [92, 117, 48, 48, 49, 97]) (by simp) (by unfold maxLen; simp; omega) (by simp; omega) (by simp; omega) ?_; intro v' w2 hown' hgrow hsame
                 have N := hide (q_next HQ.out (HO.out.alloc _) (HB.out.trans ((Below.refl B wr).alloc hBw _)) (by simp; omega) hown' hgrow)
                 clear hown' hgrow hsame)
              | fail)
          go_roundg (L - (j + 1))
          case measure => omega
          case rel => exact ⟨j + 1, by omega, by go_num, rfl, hide N.out.1, hide N.out.2⟩
        by_cases k27 : c = 27
        · subst k27
          have e : xEsc 27 = [92, 117, 48, 48, 49, 98] := by decide
          rw [e] at HQ
          clear e hcb k34 k92 k0 k1 k2 k3 k4 k5 k6 k7 k8 k9 k10 k11 k12 k13 k14 k15 k16 k17 k18 k19 k20 k21 k22 k23 k24 k25 k26
          go_wp2_with
            (first
              | (at_builtin; refine dwpList_append _ rfl _ _ 48 rfl B 5 .u8 1 Tryd.underlying48 Tryd.infoY8 _ xs.length xs rfl (HO.out.alloc _) (some ⟨wr.heap.size, 0, none⟩) 6 [92, 117, 48, 48, 49, 98] rfl (cells_new wr 5 [92, 117, 48, 48, 49, 98]) (by simp) (by unfold maxLen; simp; omega) (by simp; omega) (by simp; omega) ?_; intro v' w2 hown' hgrow hsame
                 have N := hide (q_next HQ.out (HO.out.alloc _) (HB.out.trans ((Below.refl B wr).alloc hBw _)) (by simp; omega) hown' hgrow)
                 clear hown' hgrow hsame)
              | fail)
          go_roundg (L - (j + 1))
          case measure => omega
          case rel => exact ⟨j + 1, by omega, by go_num, rfl, hide N.out.1, hide N.out.2⟩
        by_cases k28 : c = 28
        · subst k28
          have e : xEsc 28 = [92, 117, 48, 48, 49, 99] := by decide
          rw [e] at HQ
          clear e hcb k34 k92 k0 k1 k2 k3 k4 k5 k6 k7 k8 k9 k10 k11 k12 k13 k14 k15 k16 k17 k18 k19 k20 k21 k22 k23 k24 k25 k26 k27
          go_wp2_with
            (first
              | (at_builtin; refine dwpList_append _ rfl _ _ 48 rfl B 5 .u8 1 Tryd.underlying48 Tryd.infoY8 _ xs.length xs rfl (HO.out.alloc _) (some ⟨wr.heap.size, 0, none⟩) 6 [92, 117, 48, 48, 49, 99] rfl (cells_new wr 5 [92, 117, 48, 48, 49, 99]) (by simp) (by unfold maxLen; simp; omega) (by simp; omega) (by simp; omega) ?_; intro v' w2 hown' hgrow hsame
                 have N := hide (q_next HQ.out (HO.out.alloc _) (HB.out.trans ((Below.refl B wr).alloc hBw _)) (by simp; omega) hown' hgrow)
                 clear hown' hgrow hsame)
              | fail)
          go_roundg (L - (j + 1))
          case measure => omega
          case rel => exact ⟨j + 1, by omega, by go_num, rfl, hide N.out.1, hide N.out.2⟩
        by_cases k29 : c = 29
        · subst k29
          have e : xEsc 29 = [92, 117, 48, 48, 49, 100] := by decide
          rw [e] at HQ
          clear e hcb k34 k92 k0 k1 k2 k3 k4 k5 k6 k7 k8 k9 k10 k11 k12 k13 k14 k15 k16 k17 k18 k19 k20 k21 k22 k23 k24 k25 k26 k27 k28
          go_wp2_with
            (first
              | (at_builtin; refine dwpList_append _ rfl _ _ 48 rfl B 5 .u8 1 Tryd.underlying48 Tryd.infoY8 _ xs.length xs rfl (HO.out.alloc _) (some ⟨wr.heap.size, 0, none⟩) 6 [92, 117, 48, 48, 49, 100] rfl (cells_new wr 5 [92, 117, 48, 48, 49, 100]) (by simp) (by unfold maxLen; simp; omega) (by simp; omega) (by simp; omega) ?_; intro v' w2 hown' hgrow hsame
                 have N := hide (q_next HQ.out (HO.out.alloc _) (HB.out.trans ((Below.refl B wr).alloc hBw _)) (by simp; omega) hown' hgrow)
                 clear hown' hgrow hsame)
              | fail)
          go_roundg (L - (j + 1))
          case measure => omega
          case rel => exact ⟨j + 1, by omega, by go_num, rfl, hide N.out.1, hide N.out.2⟩
        by_cases k30 : c = 30
        · subst k30
          have e : xEsc 30 = [92, 117, 48, 48, 49, 101] := by decide
          rw [e] at HQ
          clear e hcb k34 k92 k0 k1 k2 k3 k4 k5 k6 k7 k8 k9 k10 k11 k12 k13 k14 k15 k16 k17 k18 k19 k20 k21 k22 k23 k24 k25 k26 k27 k28 k29
          go_wp2_with
            (first
              | (at_builtin; refine dwpList_append _ rfl _ _ 48 rfl B 5 .u8 1 Tryd.underlying48 Tryd.infoY8 _ xs.length xs rfl (HO.out.alloc _) (some ⟨wr.heap.size, 0, none⟩) 6 [92, 117, 48, 48, 49, 101] rfl (cells_new wr 5 [92, 117, 48, 48, 49, 101]) (by simp) (by unfold maxLen; simp; omega) (by simp; omega) (by simp; omega) ?_; intro v' w2 hown' hgrow hsame
                 have N := hide (q_next HQ.out (HO.out.alloc _) (HB.out.trans ((Below.refl B wr).alloc hBw _)) (by simp; omega) hown' hgrow)
                 clear hown' hgrow hsame)
              | fail)
          go_roundg (L - (j + 1))
          case measure => omega
          case rel => exact ⟨j + 1, by omega, by go_num, rfl, hide N.out.1, hide N.out.2⟩
        by_cases k31 : c = 31
        · subst k31
          have e : xEsc 31 = [92, 117, 48, 48, 49, 102] := by decide
          rw [e] at HQ
          clear e hcb k34 k92 k0 k1 k2 k3 k4 k5 k6 k7 k8 k9 k10 k11 k12 k13 k14 k15 k16 k17 k18 k19 k20 k21 k22 k23 k24 k25 k26 k27 k28 k29 k30
          go_wp2_with
            (first
              | (at_builtin; refine dwpList_append _ rfl _ _ 48 rfl B 5 .u8 1 Tryd.underlying48 Tryd.infoY8 _ xs.length xs rfl (HO.out.alloc _) (some ⟨wr.heap.size, 0, none⟩) 6 [92, 117, 48, 48, 49, 102] rfl (cells_new wr 5 [92, 117, 48, 48, 49, 102]) (by simp) (by unfold maxLen; simp; omega) (by simp; omega) (by simp; omega) ?_; intro v' w2 hown' hgrow hsame
                 have N := hide (q_next HQ.out (HO.out.alloc _) (HB.out.trans ((Below.refl B wr).alloc hBw _)) (by simp; omega) hown' hgrow)
                 clear hown' hgrow hsame)
              | fail)
          go_roundg (L - (j + 1))
          case measure => omega
          case rel => exact ⟨j + 1, by omega, by go_num, rfl, hide N.out.1, hide N.out.2⟩
        have g32 : ¬ (c < 32) := by omega
        have b34 : (c == 34) = false := by simp; omega
        have b92 : (c == 92) = false := by simp; omega
        have b8 : (c == 8) = false := by simp; omega
        have b9 : (c == 9) = false := by simp; omega
        have b10 : (c == 10) = false := by simp; omega
        have b12 : (c == 12) = false := by simp; omega
        have b13 : (c == 13) = false := by simp; omega
        have e : xEsc c = [c] := by unfold xEsc; rw [if_neg (by omega), if_neg (by omega), if_neg (by omega), if_neg (by omega), if_neg (by omega), if_neg (by omega), if_neg (by omega)]
        rw [e] at HQ
        clear e hcb k34 k92 k0 k1 k2 k3 k4 k5 k6 k7 k8 k9 k10 k11 k12 k13 k14 k15 k16 k17 k18 k19 k20 k21 k22 k23 k24 k25 k26 k27 k28 k29 k30 k31
        go_wp2_with
          (first
            | (at_builtin; refine dwpList_append _ rfl _ _ 48 rfl B 5 .u8 1 Tryd.underlying48 Tryd.infoY8 _ xs.length xs rfl (HO.out.alloc _) (some ⟨wr.heap.size, 0, none⟩) 1 [c] rfl (cells_new wr 5 [c]) (by simp) (by unfold maxLen; simp; omega) (by simp; omega) (by simp; omega) ?_; intro v' w2 hown' hgrow hsame
               have N := hide (q_next HQ.out (HO.out.alloc _) (HB.out.trans ((Below.refl B wr).alloc hBw _)) (by simp; omega) hown' hgrow)
               clear hown' hgrow hsame)
            | fail)
        go_roundg (L - (j + 1))
        case measure => omega
        case rel => exact ⟨j + 1, by omega, by go_num, rfl, hide N.out.1, hide N.out.2⟩
      · have p1 : ¬ ((j : Int) < (L : Int)) := by omega
        have hjl : j = ls.length := by have := HL.out; omega
        have HQ := hide (show xQ ls = qs ls j ++ [34] by unfold xQ qs; rw [hjl, List.take_length])
        obtain ⟨xs, hxs⟩ : ∃ xs, qs ls j = xs := ⟨_, rfl⟩
        rw [hxs] at HO HQ hql
        have hxl : xs.length ≤ 6291457 := by omega
        clear hjl hxs hql
        go_upto_region 24 with
          (first
            | (at_builtin; refine dwpList_append _ rfl _ _ 48 rfl B 5 .u8 1 Tryd.underlying48 Tryd.infoY8 _ xs.length xs rfl (HO.out.alloc _) (some ⟨wr.heap.size, 0, none⟩) 1 [34] rfl (cells_new wr 5 [34]) (by simp) (by unfold maxLen; simp; omega) (by simp; omega) (by simp; omega) ?_; intro v' w2 hown' hgrow hsame
               have N := hide (q_next HQ.out (HO.out.alloc _) (HB.out.trans ((Below.refl B wr).alloc hBw _)) (by simp; omega) hown' hgrow)
               clear hown' hgrow hsame)
            | fail)
        have hcv := conv_own N.out.1
        obtain ⟨ts, hts⟩ : ∃ ts, strOfNums (xQ ls) = ts := ⟨_, rfl⟩
        have FIN := hide (HF.out w2 N.out.2)
        rw [hts] at hcv FIN
        clear hts
        go_wp2
        go_ret2
        exact FIN.out

end Go.Proofs.YtegokdhmpopggaaDoor
