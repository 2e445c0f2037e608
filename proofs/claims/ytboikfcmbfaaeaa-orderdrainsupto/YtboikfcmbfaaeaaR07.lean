/- OAll, OFi0, OApA, OAp, OLnd, OHpM, OHpN -/
import Derived.Test.YtboikfcmbfaaeaaR05
import Derived.Test.YtboikfcmbfaaeaaR06
import Derived.Test.YtboikfcmbfaaeaaR04
import Derived.Test.YtboikfcmbfaaeaaR03
import Derived.Maps.AppendAt
namespace Go.Proofs.Ytboikfcmbfaaeaa
open Go.RowKit Go.Shelf
set_option linter.unusedVariables false
set_option linter.unusedSimpArgs false
attribute [local go_sem] Oper.semAt_some

theorem hp_far {base : Nat} {w w' : World} {v : Value} {hs : List Hi} (h : HpRow base w v hs) (hb : Below w.heap.size w w') : HpRow base w' v hs := by
  obtain ⟨h0, h1 | ⟨g, cap, cur, h1, h2, h3, h4⟩⟩ := h
  · exact ⟨h0, .inl h1⟩
  · exact ⟨h0, .inr ⟨g, cap, cur, h1, h2, (hb.block g (Array.getElem?_eq_some_iff.1 h3).1).trans h3, h4⟩⟩
theorem hp_blk {base g n cap : Nat} {w w' : World} {hs : List Hi} (h : HpRow base w (.slice (some ⟨g, 0, none⟩) n cap) hs) (e : w'.heap[g]? = w.heap[g]?) : HpRow base w' (.slice (some ⟨g, 0, none⟩) n cap) hs := by
  obtain ⟨h0, ⟨h1, _⟩ | ⟨g', cap', cur, h1, h2, h3, h4⟩⟩ := h
  · cases h1
  · cases h1
    exact ⟨h0, .inr ⟨g, cap, cur, rfl, h2, e.trans h3, h4⟩⟩
/-- what the iterator has between two rounds -/
structure Ms (s cap : Nat) (cv : Value) (D : List It) (f : It → It → Int) (W : World) (bx : Nat) (ok : Value) (O : Nat → Prop) (pre : List It) (hs : List Hi) : Prop where
  bag : BagAt W (s + 1) cv 0 (.slice (some ⟨s, 0, none⟩) hs.length cap)
  row : HpRow s W (.slice (some ⟨s, 0, none⟩) hs.length cap) hs
  le : hs.length ≤ cap
  lo : s + 2 ≤ bx
  hi : bx < W.heap.size
  n1 : ∀ k, O k → k ≠ s ∧ k ≠ s + 1 ∧ k ≠ bx ∧ k < W.heap.size
  st : ∃ y : It, W.heap[bx]? = some (.cells #[.int .i64 y.1, .int .i64 y.2] 29 (0, 0)) ∧ ((ok = .bool true ∧ pre ++ y :: dr f hs.length hs = D) ∨ (ok = .bool false ∧ hs = [] ∧ pre = D))
theorem takeE {w : World} {base B g cap : Nat} {cg : Nat} {cl : Array Value} {came : Int} {hs : List Hi} {f : It → It → Int} (hbag : BagAt w B (.func (.func cg) #[] cl) came (.slice (some ⟨g, 0, none⟩) hs.length cap)) (hrow : HpRow base w (.slice (some ⟨g, 0, none⟩) hs.length cap) hs) (hg : g < w.heap.size) (hn2 : hs.length ≤ 1099511627776) (hcap : hs.length ≤ cap) (hcm : cap ≤ maxLen) (hc : CmpIs (fun _ => True) (.func (.func cg) #[] cl) f) :
    Calls Try.prog 9 #[.pointer (some ⟨B, 0, none⟩)] w fun e w' => ∃ (y : It) (b : Bool) (hs' : List Hi), e = .returned (.tuple #[itV y, .bool b]) ∧ BagAt w' B (.func (.func cg) #[] cl) came (.slice (some ⟨g, 0, none⟩) hs'.length cap) ∧ HpRow base w' (.slice (some ⟨g, 0, none⟩) hs'.length cap) hs' ∧ BelX (fun k => k = g ∨ k = B) w.heap.size w w' ∧
      ((b = true ∧ 1 ≤ hs.length ∧ y = (hAt hs 0).1 ∧ hs' = tkF f hs) ∨ (b = false ∧ hs = [] ∧ hs' = [])) := by
  by_cases hne : 1 ≤ hs.length
  · refine (take_any (I := fun _ => True) (f := f) hbag hrow hg rfl hne hn2 hcap hcm hc (fun _ _ => trivial)).mono ?_
    rintro e w' ⟨rfl, b2, r2, x2⟩
    have tl := tkF_len f hs hne
    exact ⟨_, true, tkF f hs, rfl, by rw [tl]; exact b2, by rw [tl]; exact r2, x2, .inl ⟨rfl, hne, rfl, rfl⟩⟩
  · obtain rfl : hs = [] := List.eq_nil_of_length_eq_zero (by omega)
    refine (take0_any hbag).mono ?_
    rintro e w' ⟨rfl, k⟩
    exact ⟨_, false, [], rfl, hbag.keep (k.block _ hbag.lt), hp_far hrow k, BelX.of k (Nat.le_refl _), .inr ⟨rfl, rfl, rfl⟩⟩
theorem dr_next {f : It → It → Int} {hs hs' : List Hi} {pre D : List It} {y : It} {b : Bool} (hD : pre ++ dr f hs.length hs = D) (h : (b = true ∧ 1 ≤ hs.length ∧ y = (hAt hs 0).1 ∧ hs' = tkF f hs) ∨ (b = false ∧ hs = [] ∧ hs' = [])) :
    (Value.bool b = .bool true ∧ pre ++ y :: dr f hs'.length hs' = D) ∨ (Value.bool b = .bool false ∧ hs' = [] ∧ pre = D) := by
  rcases h with ⟨rfl, h1, rfl, rfl⟩ | ⟨rfl, rfl, rfl⟩
  · refine .inl ⟨rfl, ?_⟩
    rw [← hD, tkF_len f hs h1]
    conv => rhs; rw [show hs.length = hs.length - 1 + 1 by omega, dr]
  · exact .inr ⟨rfl, rfl, by simpa [dr] using hD⟩
def mlen (s : Nat) (W : World) : Nat := match W.cell? ⟨s + 1, 2, none⟩ with
  | some (.slice _ n _) => n
  | _ => 0
def okN : Value → Nat
  | .bool true => 1
  | _ => 0
set_option maxRecDepth 100000 in
set_option maxHeartbeats 8000000 in
theorem all1_in {n l Bb B base : Nat} {w : World} {cv hv : Value} {came : Int} {hs : List Hi} {f : It → It → Int} (hn : 1 ≤ n)
    (hbb : w.cell? ⟨Bb, 0, none⟩ = some (.pointer (some ⟨B, 0, none⟩))) (hbl : Bb < w.heap.size) (hbag : BagAt w B cv came hv) (hrow : HpRow base w hv hs) (hm : hs.length ≤ 1099511627776) (hc : CmpIs (fun _ => True) cv f)
    (J Jx : (Nat → Prop) → List It → World → Prop) (W : World) (hW : Below w.heap.size w W) (hJ : AbO W.heap.size J)
    (hY : ∀ O pre x W1, J O pre W1 → W.heap.size ≤ W1.heap.size → (pre ++ [x]) <+: dr f hs.length hs → YieldAt Fence.wide (n - 1) Try.prog l (itEncs x) W1 fun e W' =>
      (e = .returned (.bool true) ∧ ∃ O', J O' (pre ++ [x]) W' ∧ KbO W.heap.size O W1 W' ∧ ∀ k, O' k → (O k ∨ W1.heap.size ≤ k) ∧ k < W'.heap.size) ∨ (e = .returned (.bool false) ∧ ∃ O', Jx O' (pre ++ [x]) W'))
    (h0 : J (fun _ => False) [] W) :
    CallsIn Fence.wide n Try.prog 25 #[.func (.yield l) #[] #[], .pointer (some ⟨Bb, 0, none⟩)] W fun e W' => (∃ v, e = .returned v) ∧
      ((∃ O zs, zs = dr f hs.length hs ∧ J O zs W') ∨ (∃ O pre, pre <+: dr f hs.length hs ∧ Jx O pre W')) := by
  have hcc := hc
  obtain ⟨cg, cl, rfl, eg, hcall⟩ := hc.val
  have cB := (hW.cell (p := ⟨Bb, 0, none⟩) hbl).trans hbb
  have C1 := hide (copied_any (hbag.keep (hW.block _ hbag.lt)) (hp_far hrow hW) hm)
  have HY := hide hY
  have HJ := hide hJ
  have HCC := hide hcc
  have H0 := hide h0
  obtain ⟨D, hD⟩ : ∃ D, dr f hs.length hs = D := ⟨_, rfl⟩
  rw [hD] at HY ⊢
  have HD := hide hD
  clear hY hJ hc hcc hcall h0 hbag hrow hW hbb hbl hD
  refine callsIn_of_wp Try.func25 rfl trivial ?_ rfl
  simp only [Try.ntmps25, List.size_toArray, List.length_cons, List.length_nil, Nat.reduceAdd, Nat.reduceSub, Array.replicate_succ, Array.replicate_zero, List.push_toArray, List.append_toArray, List.nil_append, List.cons_append]
  gi_wp2_with fail
  refine ⟨trivial, (callsIn_wide.2 C1.out).mono ?_⟩
  rintro e w1 ⟨rfl, b1, r1, k1⟩
  obtain ⟨s, hs0⟩ : ∃ s, W.heap.size = s := ⟨_, rfl⟩
  have J1 := hide (HJ.out _ _ _ _ H0.out (FrO.of_below k1))
  rw [hs0] at b1 r1 k1 HY HJ ⊢
  have sz1 : s + 1 < w1.heap.size := b1.lt
  have HCP : Hid (hs.length ≤ 1099511627776) := hide hm
  have C2 := hide (takeE (f := f) b1 r1 (by omega) hm (Nat.le_refl _) (by unfold maxLen; omega) HCC.out)
  clear b1 r1
  gi_wp2_with fail
  refine ⟨trivial, (callsIn_wide.2 C2.out).mono ?_⟩
  rintro e w2 ⟨⟨y1, y2⟩, b, hs', rfl, b2, r2, x2, hh⟩
  have hsz2 := x2.size
  have J2 := HJ.out _ _ _ _ J1.out (FrO.of_belx x2 (fun k hk => ⟨by omega, fun h => h⟩))
  have hhl : hs'.length ≤ hs.length := by
    rcases hh with ⟨_, h1, _, rfl⟩ | ⟨_, h1, rfl⟩
    · rw [tkF_len f hs h1]; omega
    · simp
  obtain ⟨w3, hw3⟩ : ∃ u, w2.alloc (.cells #[.int .i64 y1, .int .i64 y2] 29) = u := ⟨_, rfl⟩
  have k3 : Below w2.heap.size w2 w3 := by rw [← hw3]; exact (Below.refl _ w2).alloc (Nat.le_refl _) _
  have z3 : w3.heap.size = w2.heap.size + 1 := by rw [← hw3]; simp
  have e3 : w3.heap[w2.heap.size]? = some (.cells #[.int .i64 y1, .int .i64 y2] 29 (0, 0)) := by rw [← hw3]; exact heap_alloc_new w2 _
  have J3 := HJ.out _ _ _ _ J2 (FrO.of_below k3)
  have M3 : Hid (Ms s hs.length (.func (.func cg) #[] cl) D f w3 w2.heap.size (.bool b) (fun _ => False) [] hs') := hide ⟨b2.keep (k3.block _ b2.lt), hp_blk r2 (k3.block _ (by omega)), hhl, by omega, by omega, fun k h => h.elim, (y1, y2), e3, dr_next (by simpa using HD.out) hh⟩
  have HJ3 := hide J3
  have SZ3 : Hid (s ≤ w3.heap.size) := hide (by omega)
  obtain ⟨bx, hbx⟩ : ∃ bx, w2.heap.size = bx := ⟨_, rfl⟩
  rw [hbx] at M3
  have HBX := hide hbx
  clear b2 r2 x2 k3 e3 J1 J2 J3 C2 hsz2 C1 k1 hh hhl H0 z3 hbx HD
  gi_wp2_with fail
  try rw [hw3]
  try rw [HBX.out]
  clear hw3
  gi_loopw [4, 5] (fun px ok wr => ∃ (bx : Nat) (O : Nat → Prop) (pre : List It) (hs' : List Hi), px = .pointer (some ⟨bx, 0, none⟩) ∧ Hid (Ms s hs.length (.func (.func cg) #[] cl) D f wr bx ok O pre hs') ∧ Hid (J O pre wr) ∧ Hid (s ≤ wr.heap.size)) (fun _ ok wr => mlen s wr + okN ok)
  case atStart => exact ⟨bx, _, _, _, rfl, M3, HJ3, SZ3⟩
  case round =>
    clear M3 HJ3 SZ3 HBX
    obtain ⟨bx, O, pre, hs', rfl, hM, hJw, hS⟩ := hrel
    obtain ⟨⟨y1, y2⟩, ey, hy⟩ := hM.out.st
    have cx0 := cell_of_row wr bx 0 _ _ _ ey
    have cx1 := cell_of_row wr bx 1 _ _ _ ey
    simp at cx0 cx1
    have EY := hide ey
    clear ey
    rcases hy with ⟨rfl, hDD⟩ | ⟨rfl, hh, hDD⟩
    · have hpre : Hid (pre ++ [(y1, y2)] <+: D) := hide ⟨dr f hs'.length hs', by rw [← hDD]; simp⟩
      have HDD := hide hDD
      obtain ⟨fn, tmps, assign, body, hyl, hR⟩ := HY.out O pre (y1, y2) wr hJw.out hS.out hpre.out
      dsimp only [itEncs, itV] at hyl
      clear hDD
      gi_wp2
      refine hR.mono ?_
      rintro e W3 (⟨rfl, O', hJ3, hK3, hO3⟩ | ⟨rfl, O', hJx3⟩)
      · have m0 := hM.out.n1
        have lo := hM.out.lo
        have hi := hM.out.hi
        have lb := hM.out.bag.lt
        have hsz := hK3.1
        have e1 := hK3.2 s (Nat.le_refl _) (by omega) (fun h => (m0 s h).1 rfl)
        have e2 := hK3.2 (s + 1) (by omega) (by omega) (fun h => (m0 _ h).2.1 rfl)
        have e3 := hK3.2 bx (by omega) (by omega) (fun h => (m0 _ h).2.2.1 rfl)
        have ey3 := e3.trans EY.out
        have cx0 := cell_of_row W3 bx 0 _ _ _ ey3
        have cx1 := cell_of_row W3 bx 1 _ _ _ ey3
        simp at cx0 cx1
        obtain ⟨W4, hW4⟩ : ∃ u, W3.alloc (.cells #[.int .i64 y1, .int .i64 y2] 29) = u := ⟨_, rfl⟩
        have k4 : Below W3.heap.size W3 W4 := by rw [← hW4]; exact (Below.refl _ W3).alloc (Nat.le_refl _) _
        have z4 : W4.heap.size = W3.heap.size + 1 := by rw [← hW4]; simp
        have e4 : W4.heap[W3.heap.size]? = some (.cells #[.int .i64 y1, .int .i64 y2] 29 (0, 0)) := by rw [← hW4]; exact heap_alloc_new W3 _
        have hle := hM.out.le
        have C5 := hide (takeE (w := W4) (f := f) (hM.out.bag.keep ((k4.block _ (by omega)).trans e2)) (hp_blk hM.out.row ((k4.block _ (by omega)).trans e1)) (by omega) (by have := HCP.out; omega) hle (by have := HCP.out; unfold maxLen; omega) HCC.out)
        have O3 : Hid (∀ k, O' k → k ≠ s ∧ k ≠ s + 1 ∧ k < W3.heap.size) := hide (fun k hk => by
          obtain ⟨h1, h2⟩ := hO3 k hk
          rcases h1 with h1 | h1
          · have := m0 k h1
            exact ⟨this.1, this.2.1, h2⟩
          · exact ⟨by omega, by omega, h2⟩)
        have J4 := hide (HJ.out _ _ _ _ hJ3 (FrO.of_below k4))
        have E4 := hide e4
        have Z4 := hide z4
        have LL4 := hide (show s + 2 ≤ W3.heap.size ∧ s ≤ wr.heap.size by omega)
        have ML : Hid (mlen s wr = hs'.length) := hide (by unfold mlen; rw [hM.out.bag.cells.2.2])
        clear hJ3 hK3 hO3 m0 lo hi lb hsz e1 e2 e3 ey3 k4 e4 z4 hle hyl hR
        gi_wp2_with fail
        try rw [hW4]
        refine ⟨trivial, (callsIn_wide.2 C5.out).mono ?_⟩
        rintro e w5 ⟨⟨z1, z2⟩, b, hs2, rfl, b5, r5, x5, hh5⟩
        have hll := LL4.out
        have e5 := (x5.block W3.heap.size (by have := Z4.out; omega) (by omega)).trans E4.out
        have c0 := cell_of_row w5 W3.heap.size 0 _ _ _ e5
        have c1 := cell_of_row w5 W3.heap.size 1 _ _ _ e5
        have f0 := frozen_of_row w5 W3.heap.size 0 _ _ e5
        have f1 := frozen_of_row w5 W3.heap.size 1 _ _ e5
        simp at c0 c1
        obtain ⟨w6, hw6⟩ : ∃ u, (w5.setCell ⟨W3.heap.size, 0, none⟩ (.int .i64 z1)).setCell ⟨W3.heap.size, 1, none⟩ (.int .i64 z2) = u := ⟨_, rfl⟩
        have x6 : BelX (fun k => k = W3.heap.size) w5.heap.size w5 w6 := by
          rw [← hw6]
          exact (belx_set (X := fun k => k = W3.heap.size) _ _ rfl).trans (belx_set (X := fun k => k = W3.heap.size) _ _ rfl)
        have e6 : w6.heap[W3.heap.size]? = some (.cells #[.int .i64 z1, .int .i64 z2] 29 (0, 0)) := by
          rw [← hw6, heap_setCell_same _ _ 1 _ _ _ (heap_setCell_same w5 _ 0 _ _ _ e5)]
          simp
        have l5 := b5.lt
        have sz5 := x5.size
        have sz6 := x6.size
        have z4 := Z4.out
        have b6 := b5.keep (x6.block _ b5.lt (by omega))
        have J5 := HJ.out _ _ _ _ J4.out (FrO.of_belx x5 (fun k hk => ⟨by omega, fun h => by have := O3.out k h; omega⟩))
        have J6 := hide (HJ.out _ _ _ _ J5 (FrO.of_belx x6 (fun k hk => ⟨by omega, fun h => by have := O3.out k h; omega⟩)))
        have M6 : Hid (Ms s hs.length (.func (.func cg) #[] cl) D f w6 W3.heap.size (.bool b) O' (pre ++ [(y1, y2)]) hs2) := hide ⟨b6, hp_blk r5 (x6.block _ (by omega) (by omega)), by
          have := hM.out.le
          rcases hh5 with ⟨_, h1, _, rfl⟩ | ⟨_, h1, rfl⟩
          · rw [tkF_len f hs' h1]; omega
          · simp, by omega, by omega, fun k hk => by have := O3.out k hk; omega, (z1, z2), e6, dr_next (by rw [← HDD.out]; simp) hh5⟩
        have MD : Hid (mlen s w6 + okN (.bool b) < mlen s wr + 1) := hide (by
          rw [ML.out]
          have : mlen s w6 = hs2.length := by unfold mlen; rw [b6.cells.2.2]
          rw [this]
          rcases hh5 with ⟨rfl, h1, _, rfl⟩ | ⟨rfl, h1, rfl⟩
          · rw [tkF_len f hs' h1]
            simp [okN]
            omega
          · simp [okN])
        have S6 : Hid (s ≤ w6.heap.size) := hide (by omega)
        clear b5 r5 x5 hh5 e5 x6 e6 l5 sz5 sz6 b6 J5 z4 hll
        gi_wp2
        go_roundw
        case rel =>
          try rw [hw6]
          exact ⟨_, O', _, hs2, rfl, M6, J6, S6⟩
        case measure =>
          try rw [hw6]
          exact MD.out
      · clear hyl hR
        gi_wp2
        go_end0
        exact ⟨⟨_, rfl⟩, .inr ⟨O', _, hpre.out, hJx3⟩⟩
    · gi_wp2
      refine ⟨fun f h => (by cases h), ?_⟩
      gi_wp2
      go_end0
      exact ⟨⟨_, rfl⟩, .inl ⟨O, pre, hDD, hJw.out⟩⟩

theorem all_told {n Bb B base : Nat} {w : World} {cv hv : Value} {came : Int} {hs : List Hi} {f : It → It → Int} (hn : 1 ≤ n)
    (hbb : w.cell? ⟨Bb, 0, none⟩ = some (.pointer (some ⟨B, 0, none⟩))) (hbl : Bb < w.heap.size) (hbag : BagAt w B cv came hv) (hrow : HpRow base w hv hs) (hm : hs.length ≤ 1099511627776) (hc : CmpIs (fun _ => True) cv f) :
    SeqO Fence.wide n Try.prog 25 #[.pointer (some ⟨Bb, 0, none⟩)] itEncs (fun pre x => (pre ++ [x]) <+: dr f hs.length hs) (fun zs => zs = dr f hs.length hs) (fun pre => pre <+: dr f hs.length hs) w :=
  fun l J Jx W hW hJ _ hY h0 => all1_in hn hbb hbl hbag hrow hm hc J Jx W hW hJ hY h0

end Go.Proofs.Ytboikfcmbfaaeaa

namespace Go.Proofs.Ytboikfcmbfaaeaa
open Go.RowKit Go.Shelf
set_option linter.unusedVariables false
set_option linter.unusedSimpArgs false

theorem ItRd.far {w w' : World} {v : Value} {l : List It} (h : ItRd (fun _ => True) w v l) (hb : Below w.heap.size w w') : ItRd (fun _ => True) w' v l := by
  obtain ⟨ao, ca, h1, h2, h3, h4⟩ := h
  refine ⟨ao, ca, h1, h2, h3, fun hp => ?_⟩
  obtain ⟨g, o, h5, h6, h7, h8⟩ := h4 hp
  exact ⟨g, o, h5, h6, Nat.lt_of_lt_of_le h7 hb.size, fun i hi => ⟨(hb.cell (p := ⟨g, _, none⟩) h7).trans (h8 i hi).1, (hb.cell (p := ⟨g, _, none⟩) h7).trans (h8 i hi).2⟩⟩
theorem Lent.far {base : Nat} {w w' : World} {g cap : Nat} {l : List It} (h : Lent base w g cap l) (hb : Below w.heap.size w w') : Lent base w' g cap l := by
  have hg := h.itin.2.1
  obtain ⟨h0, ⟨h1, h2⟩ | ⟨g', cap', cur, h1, h2, h3, h4⟩⟩ := h
  · cases h1
  · cases h1
    exact ⟨h0, .inr ⟨g, cap, cur, rfl, h2, (hb.block _ hg).trans h3, h4⟩⟩
theorem Lent.rd {base : Nat} {w : World} {g cap : Nat} {l : List It} (h : Lent base w g cap l) : ItRd (fun _ => True) w (.slice (some ⟨g, 0, none⟩) l.length cap) l := by
  obtain ⟨_, hg, hcap, hcm, hin⟩ := h.itin
  exact ⟨_, cap, rfl, by omega, hcm, fun _ => ⟨g, 0, rfl, trivial, hg, fun i hi => by
    have q := hin i (by simp; omega)
    rw [List.getElem_append_left hi] at q
    exact q⟩⟩

theorem bsOk_at {o : Int} {l : List It} {x : It} {k : Nat} (h : k < l.length) {z : It} (hz : l[k] = z) : bsOk (byF o) l x k = decide (ocmp o z x = 0) := by
  unfold bsOk
  have e : l[k]?.getD (0, 0) = z := by rw [List.getElem?_eq_getElem h]; exact hz
  rw [e]
  simp [h, byF_zero]

end Go.Proofs.Ytboikfcmbfaaeaa

namespace Go.Proofs.Ytboikfcmbfaaeaa
open Go.RowKit Go.Shelf
set_option linter.unusedVariables false
set_option linter.unusedSimpArgs false

theorem owns_set {W : World} {base g n cap k : Nat} {c : List It} (h : W.ownsRow base 29 2 (.slice (some ⟨g, 0, none⟩) n cap) n (flat c)) (hk : k < c.length) (x : It) :
    ((W.setCell ⟨g, k * 2, none⟩ (.int .i64 x.1)).setCell ⟨g, k * 2 + 1, none⟩ (.int .i64 x.2)).ownsRow base 29 2 (.slice (some ⟨g, 0, none⟩) n cap) n (flat (c.set k x)) := by
  obtain ⟨h0, ⟨h1, _⟩ | ⟨g', cap', cur, h1, h2, h3, h4, h5, h6, h7⟩⟩ := h
  · cases h1
  · cases h1
    have hc : c.length = n := by rw [flat_len] at h0; omega
    refine ⟨by rw [flat_len] at h0 ⊢; simpa using h0, .inr ⟨g, cap, _, rfl, h2, heap_setCell_same _ g _ _ _ _ (heap_setCell_same W g (k * 2) _ _ _ h3), h4, h5, by simp [h6], ?_⟩⟩
    rw [← flat_set c k hk x, ← h7]
    simp only [Array.toList_setIfInBounds]
    rw [List.take_set, List.take_set]

theorem owns_cell {W : World} {base g n cap : Nat} {c : List It} (h : W.ownsRow base 29 2 (.slice (some ⟨g, 0, none⟩) n cap) n (flat c)) {k : Nat} (hk : k < c.length) : W.cell? ⟨g, k * 2, none⟩ = some (.int .i64 c[k].1) ∧ W.cell? ⟨g, k * 2 + 1, none⟩ = some (.int .i64 c[k].2) ∧ W.frozen? ⟨g, k * 2, none⟩ = false ∧ W.frozen? ⟨g, k * 2 + 1, none⟩ = false := by
  obtain ⟨h0, ⟨h1, _⟩ | ⟨g', cap', cur, h1, h2, h3, h4, h5, h6, h7⟩⟩ := h
  · cases h1
  · cases h1
    obtain ⟨f1, f2⟩ := flat_get c k hk
    have t1 : ∀ j u, (flat c)[j]? = some u → W.cell? ⟨g, j, none⟩ = some u := fun j u hj => by
      have e : cur[j]? = some u := by
        rw [← h7, List.getElem?_take] at hj
        split at hj
        · simpa using hj
        · cases hj
      rw [cell_of_row W g j cur _ _ h3]
      exact e
    exact ⟨t1 _ _ f1, t1 _ _ f2, frozen_of_row W g _ _ _ h3, frozen_of_row W g _ _ _ h3⟩

theorem owns_pre {W : World} {base g m cap : Nat} {c d : List It} (h : W.ownsRow base 29 2 (.slice (some ⟨g, 0, none⟩) m cap) m (flat (c ++ d))) : W.ownsRow base 29 2 (.slice (some ⟨g, 0, none⟩) c.length cap) c.length (flat c) := by
  obtain ⟨h0, ⟨h1, _⟩ | ⟨g', cap', cur, h1, h2, h3, h4, h5, h6, h7⟩⟩ := h
  · cases h1
  · cases h1
    rw [flat_len, List.length_append] at h0
    refine ⟨flat_len c, .inr ⟨g, cap, cur, rfl, h2, h3, by omega, h5, h6, ?_⟩⟩
    have e : cur.toList.take (c.length * 2) = (cur.toList.take (m * 2)).take (c.length * 2) := by rw [List.take_take, Nat.min_eq_left (by omega)]
    rw [e, h7, flat_append, ← flat_len c, List.take_left]

theorem owns_on2 {W W' : World} {base e n g : Nat} {v : Value} {xs : List Value} (h : W.ownsRow base e 2 v n xs) (hg : W.grownBy W' (some g)) (hr : v.ownBlock ≠ some g) : W'.ownsRow base e 2 v n xs := by
  obtain ⟨h0, h1 | ⟨g', cap, cur, rfl, h2, h3, h4⟩⟩ := h
  · exact ⟨h0, .inl h1⟩
  · exact ⟨h0, .inr ⟨g', cap, cur, rfl, h2, (hg.block g' (Array.getElem?_eq_some_iff.1 h3).1 (fun e => hr e)).trans h3, h4⟩⟩

theorem run_ap1 {w : World} {base n : Nat} {v : Value} {ys : List Value} {x : It} {ad : Addr} {c : Nat} (hown : w.ownsRow base 29 2 v n ys) (hnews : ∀ j u, (flat [x])[j]? = some u → w.cell? (ad.add j) = some u)
    (hby : n + 1 ≤ 8796093022208) (hbase : base ≤ w.heap.size) (ty : TypeId) :
    ∃ v' w', (Builtin.append_ #[22, 22] ty #[v, .slice (some ad) 1 c]).run Try.prog w = .ok v' w' ∧ w'.ownsRow base 29 2 v' (n + 1) (ys ++ flat [x]) ∧
      ((w.grownBy w' none ∧ v'.ownBlock = some w.heap.size) ∨ ∃ g cap, n + 1 ≤ cap ∧ v = .slice (some ⟨g, 0, none⟩) n cap ∧ v' = .slice (some ⟨g, 0, none⟩) (n + 1) cap ∧ w.grownBy w' (some g)) := by
  obtain ⟨i0, hi0, hz0, hz1, hz2⟩ := info_parts itinfoM
  have hl : (flat [x]).length = 1 * 2 := flat_len _
  have hown' := hown
  obtain ⟨h0, ⟨rfl, h1⟩ | ⟨g, cap, cur, rfl, h2, h3, h4, h5, h6, h7⟩⟩ := hown'
  · obtain ⟨v', w', r1, r2, r3, r4, r5⟩ := run_append_own_at (P := Try.prog) w base 22 ty 29 i0 _ 2 16 Try.underlying22 hi0 hz0 hz1 hz2 rfl (by decide) _ n ys hown ad 1 c (flat [x]) hl hnews (flat_one _) (by unfold maxLen; omega) (by omega) hbase
    refine ⟨v', w', r1, r2, .inl ⟨r3, ?_⟩⟩
    rcases r5 with e | e
    · obtain ⟨_, ⟨e1, e2⟩ | ⟨g, cap, cur, rfl, _⟩⟩ := r2
      · omega
      · cases e
    · exact e
  · by_cases hc : n + 1 ≤ cap
    · obtain ⟨w', r1, r2, r3⟩ := run_append_fits (P := Try.prog) w base 22 ty 29 i0 2 Try.underlying22 hi0 hz1 g n cap ys hown ad 1 c (flat [x]) hl hnews (flat_one _) hc
      exact ⟨_, w', r1, r2, .inr ⟨g, cap, hc, rfl, rfl, r3⟩⟩
    · obtain ⟨v', w', r1, r2, r3, r4, r5⟩ := run_append_own_at (P := Try.prog) w base 22 ty 29 i0 _ 2 16 Try.underlying22 hi0 hz0 hz1 hz2 rfl (by decide) _ n ys hown ad 1 c (flat [x]) hl hnews (flat_one _) (by unfold maxLen; omega) (by omega) hbase
      have hr := run_append_grow (P := Try.prog) w 22 ty 29 i0 _ Try.underlying22 hi0 hz0 ⟨g, 0, none⟩ n cap ys (by rw [hz1]; exact hown.1) (hown.cells (g := g) rfl) ad 1 c (flat [x]) (by rw [hz1]; exact hl) hnews (by omega) (by omega) (growslice_fits (by omega) (by rw [hz2]; omega))
      rw [hr] at r1
      injection r1 with e1 e2
      refine ⟨v', w', by rw [hr, e1, e2], r2, .inl ⟨?_, by rw [← e1]; rfl⟩⟩
      rw [← e2]
      exact ⟨rfl, rfl, rfl, by simp, fun k hk _ => (Below.heap_alloc w.drew _ k hk).trans rfl⟩

end Go.Proofs.Ytboikfcmbfaaeaa

namespace Go.Proofs.Ytboikfcmbfaaeaa
open Go.RowKit Go.Shelf
set_option linter.unusedVariables false
set_option linter.unusedSimpArgs false

theorem wpList_ap1 {w : World} {ops : Array Oper} {rest : List Oper} {o : Oper} {a : Act} {Q : Exit → Act → World → Prop} (hgd : o.guard = none) (s x : Operand)
    (ho : o.op = .call { callee := .builtin .append, args := #[s, x], argTypes := #[22, 22] })
    (base : Nat) (v : Value) (n : Nat) (ys : List Value) (hs : a.eval s = v) (hown : w.ownsRow base 29 2 v n ys) (ad : Addr) (c : Nat) (y : It) (hx : a.eval x = .slice (some ad) 1 c) (hnews : ∀ j u, (flat [y])[j]? = some u → w.cell? (ad.add j) = some u)
    (hby : n + 1 ≤ 8796093022208) (hbase : base ≤ w.heap.size)
    (h : ∀ v' w', w'.ownsRow base 29 2 v' (n + 1) (ys ++ flat [y]) → ((w.grownBy w' none ∧ v'.ownBlock = some w.heap.size) ∨ ∃ g cap, n + 1 ≤ cap ∧ v = .slice (some ⟨g, 0, none⟩) n cap ∧ v' = .slice (some ⟨g, 0, none⟩) (n + 1) cap ∧ w.grownBy w' (some g)) → wpList Try.prog ops Q rest (a.put o.dst v') w') : wpList Try.prog ops Q (o :: rest) a w := by
  refine wpList_plain hgd fun K hK => ?_
  obtain ⟨v', w', hr, h2, h3⟩ := run_ap1 hown hnews hby hbase o.type
  unfold Oper.wp execOp
  simp only [ho, resolve, invoke, builtin, Sem.run_bind, Sem.run_pure, Result.andThen_ok, List.map_toArray, List.map_cons, List.map_nil, hs, hx]
  rw [hr]
  exact hK _ _ (h v' w' h2 h3)
def mkd (i n : Nat) : List It := (List.range n).map fun (k : Nat) => (((i : Nat) : Int), 100000 + ((k : Nat) : Int))
theorem mkd_len (i n : Nat) : (mkd i n).length = n := by simp [mkd]
theorem mkd_get (i n k : Nat) (h : k < (mkd i n).length) : (mkd i n)[k] = ((i : Int), 100000 + (k : Int)) := by simp [mkd]
def RW (base m : Nat) (v : Nat → Value) (n : Nat → Nat) (W : World) (C : Nat → List It) : Prop := ∀ j, j < m → W.ownsRow base 29 2 (v j) (n j) (flat (C j))
def AP (m : Nat) (v : Nat → Value) : Prop := ∀ i j, i < m → j < m → i ≠ j → ∀ k, (v i).ownBlock = some k → (v j).ownBlock ≠ some k
def LL (gl m : Nat) (v : Nat → Value) (W : World) : Prop := ∀ j, j < m → W.cell? ⟨gl, j, none⟩ = some (v j)
theorem RW.len {base m : Nat} {v : Nat → Value} {n : Nat → Nat} {W : World} {C : Nat → List It} (h : RW base m v n W C) {j : Nat} (hj : j < m) : (C j).length = n j := by
  have := (h j hj).1
  rw [flat_len] at this
  omega
theorem own_shape {W : World} {base e n : Nat} {v : Value} {xs : List Value} (h : W.ownsRow base e 2 v n xs) : ∃ po pc, v = .slice po n pc ∧ (0 < n → ∃ g, po = some ⟨g, 0, none⟩) := by
  obtain ⟨h0, ⟨rfl, h1⟩ | ⟨g, cap, cur, rfl, _⟩⟩ := h
  · exact ⟨none, 0, by rw [h1], fun e => by omega⟩
  · exact ⟨_, cap, rfl, fun _ => ⟨g, rfl⟩⟩
theorem RW.set {base m : Nat} {v : Nat → Value} {n : Nat → Nat} {W : World} {C : Nat → List It} (h : RW base m v n W C) (ha : AP m v) {i g cap k : Nat} (hi : i < m) (hv : v i = .slice (some ⟨g, 0, none⟩) (n i) cap) (hk : k < n i) (x : It) :
    RW base m v n ((W.setCell ⟨g, k * 2, none⟩ (.int .i64 x.1)).setCell ⟨g, k * 2 + 1, none⟩ (.int .i64 x.2)) (fun j => if j = i then (C i).set k x else C j) := by
  intro j hj
  by_cases hji : j = i
  · subst hji
    simp only [if_true]
    have := h j hj
    rw [hv] at this ⊢
    exact owns_set this (by rw [h.len hj]; exact hk) x
  · simp only [if_neg hji]
    have hb : (v j).ownBlock ≠ some g := ha i j hi hj (fun e => hji e.symm) g (by rw [hv]; rfl)
    exact ownsRow_setCell_other (ownsRow_setCell_other (h j hj) hb _) hb _
theorem LL.set {gl m : Nat} {v : Nat → Value} {W : World} (h : LL gl m v W) {g k : Nat} (hg : gl ≠ g) (a b : Value) : LL gl m v ((W.setCell ⟨g, k * 2, none⟩ a).setCell ⟨g, k * 2 + 1, none⟩ b) := by
  intro j hj
  have b1 : BelX (fun k => k = g) (gl + 1) W ((W.setCell ⟨g, k * 2, none⟩ a).setCell ⟨g, k * 2 + 1, none⟩ b) := (belx_set (X := fun k => k = g) W a rfl).trans (belx_set (X := fun k => k = g) _ b rfl)
  exact (b1.cell (p := ⟨gl, j, none⟩) (Nat.lt_succ_self _) hg).trans (h j hj)
theorem below_set {B : Nat} {w W : World} (h : Below B w W) {g k : Nat} (hg : B ≤ g) (a b : Value) : Below B w ((W.setCell ⟨g, k * 2, none⟩ a).setCell ⟨g, k * 2 + 1, none⟩ b) := by
  have b1 : BelX (fun k => k = g) B W ((W.setCell ⟨g, k * 2, none⟩ a).setCell ⟨g, k * 2 + 1, none⟩ b) := (belx_set (X := fun k => k = g) W a rfl).trans (belx_set (X := fun k => k = g) _ b rfl)
  exact h.trans (b1.below (Nat.le_refl _) (fun k hk e => by omega))
/-- where a list that grows lies -/
def Pla (v0 : Value) (n0 s0 cp q : Nat) (vg : Value) : Prop := vg.ownBlock = none ∨ (∃ g, v0 = .slice (some ⟨g, 0, none⟩) n0 cp ∧ vg = .slice (some ⟨g, 0, none⟩) (n0 + q) cp) ∨ ∃ k, vg.ownBlock = some k ∧ s0 ≤ k
theorem grow_step {base m s0 i q cp : Nat} {v : Nat → Value} {n : Nat → Nat} {W w' : World} {vg v' : Value} {ys : List It} {gl : Nat} {w : World} {y : It} (hR : RW base m v n W (fun j => mkd j (n j))) (hA : AP m v) (hi : i < m) (hs0 : s0 ≤ W.heap.size) (hbs : base ≤ s0) (hrs : ∀ j, j < m → ∀ k, (v j).ownBlock = some k → k < s0)
    (hL : LL gl m v W) (hgl : gl < s0) (hgn : ∀ j, j < m → (v j).ownBlock ≠ some gl) (hB : Below base w W) (hp : Pla (v i) (n i) s0 cp q vg) (ho : w'.ownsRow base 29 2 v' (n i + q + 1) (flat ((mkd i (n i) ++ ys) ++ [y])))
    (hh : (W.grownBy w' none ∧ ∃ z, v'.ownBlock = some z ∧ s0 ≤ z) ∨ ∃ g cap, n i + q + 1 ≤ cap ∧ vg = .slice (some ⟨g, 0, none⟩) (n i + q) cap ∧ v' = .slice (some ⟨g, 0, none⟩) (n i + q + 1) cap ∧ W.grownBy w' (some g)) :
    RW base m v n w' (fun j => mkd j (n j)) ∧ LL gl m v w' ∧ Below base w w' ∧ Pla (v i) (n i) s0 cp (q + 1) v' ∧ s0 ≤ w'.heap.size := by
  rcases hh with ⟨h1, z, h2, hz⟩ | ⟨g, cap, h0, h1, h2, h3⟩
  · have hb : Below W.heap.size W w' := (BelX.grown (X := fun _ => False) h1 (Nat.le_refl _) (fun k e => by cases e)).below (Nat.le_refl _) (fun _ _ e => e)
    refine ⟨fun j hj => owns_on (hR j hj) h1 (fun r e => by cases e), fun j hj => (hb.cell (p := ⟨gl, j, none⟩) (by show gl < W.heap.size; omega)).trans (hL j hj), hB.trans (hb.mono (by omega)), .inr (.inr ⟨_, h2, hz⟩), Nat.le_trans hs0 hb.size⟩
  · subst h1
    subst h2
    have hbx : ∀ N, N ≤ W.heap.size → BelX (fun k => k = g) N W w' := fun N hN => BelX.grown h3 hN (fun k e => by cases e; exact .inr rfl)
    have hsz : W.heap.size ≤ w'.heap.size := (hbx 0 (by omega)).size
    have hg0 : base ≤ g := by
      obtain ⟨_, ⟨e, _⟩ | ⟨g', cap', cur, e, e2, _⟩⟩ := ho
      · cases e
      · cases e
        exact e2
    have hBw : Below base w w' := hB.trans ((hbx base (by omega)).below (Nat.le_refl _) (fun k hk e => by omega))
    rcases hp with e | ⟨g', e1, e2⟩ | ⟨k, e1, e2⟩
    · cases e
    · cases e2
      have hgb : (v i).ownBlock = some g := by rw [e1]; rfl
      have hgg : gl ≠ g := fun e => hgn i hi (by rw [hgb, e])
      refine ⟨fun j hj => ?_, fun j hj => ((hbx (gl + 1) (by omega)).cell (p := ⟨gl, j, none⟩) (Nat.lt_succ_self _) hgg).trans (hL j hj), hBw, .inr (.inl ⟨g, e1, rfl⟩), by omega⟩
      by_cases hji : j = i
      · subst hji
        rw [e1]
        rw [List.append_assoc] at ho
        have := owns_pre ho
        rw [mkd_len] at this
        exact this
      · exact owns_on2 (hR j hj) h3 (fun e => hA i j hi hj (fun e' => hji e'.symm) g hgb e)
    · have hk : k = g := by cases e1; rfl
      subst hk
      refine ⟨fun j hj => owns_on2 (hR j hj) h3 (fun e => by have := hrs j hj _ e; omega), fun j hj => ((hbx (gl + 1) (by omega)).cell (p := ⟨gl, j, none⟩) (Nat.lt_succ_self _) (by show gl ≠ k; omega)).trans (hL j hj), hBw, .inr (.inr ⟨k, rfl, e2⟩), by omega⟩

end Go.Proofs.Ytboikfcmbfaaeaa

namespace Go.Proofs.Ytboikfcmbfaaeaa
open Go.RowKit Go.Shelf
set_option linter.unusedVariables false
set_option linter.unusedSimpArgs false

theorem wpList_append_fit {w : World} {ops : Array Oper} {rest : List Oper} {o : Oper} {a : Act} {Q : Exit → Act → World → Prop} (hgd : o.guard = none) (s x : Operand)
    (ho : o.op = .call { callee := .builtin .append, args := #[s, x], argTypes := #[22, 22] })
    (base g n cap : Nat) (ys : List Value) (hs : a.eval s = .slice (some ⟨g, 0, none⟩) n cap) (hown : w.ownsRow base 29 2 (.slice (some ⟨g, 0, none⟩) n cap) n ys)
    (va : Value) (l : List It) (hx : a.eval x = va) (hrd : ItRd (fun _ => True) w va l) (hno : ∀ c, va = .slice none 0 c → c = 0) (hroom : n + l.length ≤ cap) (hbase : base ≤ w.heap.size)
    (h : ∀ w', w'.ownsRow base 29 2 (.slice (some ⟨g, 0, none⟩) (n + l.length) cap) (n + l.length) (ys ++ flat l) → Below base w w' → wpList Try.prog ops Q rest (a.put o.dst (.slice (some ⟨g, 0, none⟩) (n + l.length) cap)) w') : wpList Try.prog ops Q (o :: rest) a w := by
  obtain ⟨i0, hi0, hz0, hz1, hz2⟩ := info_parts itinfoM
  obtain ⟨ao, ca, rfl, hac, ham, hcl⟩ := hrd
  have hgb : base ≤ g := by
    obtain ⟨_, ⟨e, _⟩ | ⟨g', cap', cur, e, e2, _⟩⟩ := hown
    · cases e
    · cases e
      exact e2
  rcases ao with _ | ad
  · have e : l.length = 0 := by
      rcases Nat.eq_zero_or_pos l.length with e | e
      · exact e
      · obtain ⟨g, o', he, _⟩ := hcl e
        cases he
    obtain rfl := List.eq_nil_of_length_eq_zero e
    obtain rfl := hno ca rfl
    refine wpList_plain hgd fun K hK => ?_
    have hr := run_append_owned_none (P := Try.prog) (w := w) base 22 o.type 29 i0 2 Try.underlying22 hi0 _ n ys hown
    unfold Oper.wp execOp
    simp only [ho, resolve, invoke, builtin, Sem.run_bind, Sem.run_pure, Result.andThen_ok, List.map_toArray, List.map_cons, List.map_nil, hs, hx]
    simp only [List.length_nil] at hr ⊢
    rw [hr]
    exact hK _ _ (h w (by simpa [flat] using hown) (Below.refl _ _))
  · refine wpList_append_fits w hgd s x 22 ho base 29 i0 2 Try.underlying22 hi0 hz1 g n cap ys hs hown ad l.length ca (flat l) hx (flat_len l) (by
      by_cases e : l.length = 0
      · obtain rfl := List.eq_nil_of_length_eq_zero e
        intro j u hu
        simp [flat] at hu
      · obtain ⟨g, o', he, _, hg, hin⟩ := hcl (by omega)
        cases he
        exact news_items hin) (flat_one l) hroom ?_
    intro w' h1 h2
    exact h w' h1 ((BelX.grown (X := fun k => k = g) (n := base) h2 hbase (fun k e => by cases e; exact .inr rfl)).below (Nat.le_refl _) (fun k hk e => by omega))

end Go.Proofs.Ytboikfcmbfaaeaa

namespace Go.Proofs.Ytboikfcmbfaaeaa
set_option linter.unusedVariables false
set_option linter.unusedSimpArgs false

/-- an order in which whatever is not ahead is behind or the same -/
structure Tot (ah : Hi → Hi → Bool) : Prop where
  irr : ∀ a, ah a a = false
  tr : ∀ a b c, ah b a = false → ah c b = false → ah c a = false
  asy : ∀ a b, ah a b = true → ah b a = false
/-- below the one above -/
def Hp (ah : Hi → Hi → Bool) (hs : List Hi) : Prop := ∀ i, 0 < i → i < hs.length → ah (hAt hs i) (hAt hs ((i - 1) / 2)) = false
theorem hp_root {ah : Hi → Hi → Bool} (T : Tot ah) {hs : List Hi} (h : Hp ah hs) : ∀ i, i < hs.length → ah (hAt hs i) (hAt hs 0) = false := by
  intro i
  induction i using Nat.strongRecOn with
  | _ i ih =>
    intro hi
    by_cases h0 : i = 0
    · subst h0; exact T.irr _
    · exact T.tr _ _ _ (ih ((i - 1) / 2) (by omega) (by omega)) (h i (by omega) hi)
theorem swp_at {hs : List Hi} {i j k : Nat} (hi : i < hs.length) (hj : j < hs.length) : hAt (swp hs i j) k = if k = j then hAt hs i else if k = i then hAt hs j else hAt hs k := by
  unfold swp hAt
  rw [List.getElem?_set, List.getElem?_set]
  by_cases h1 : k = j
  · subst h1
    simp [hj, hi]
  · rw [if_neg (fun e => h1 e.symm), if_neg h1]
    by_cases h2 : k = i
    · subst h2
      simp [hi, hj]
    · rw [if_neg (fun e => h2 e.symm), if_neg h2]
/-- a heap but for place a, whose parts stand below what is above a -/
def HpU (ah : Hi → Hi → Bool) (hs : List Hi) (a : Nat) : Prop := (∀ i, 0 < i → i < hs.length → i ≠ a → ah (hAt hs i) (hAt hs ((i - 1) / 2)) = false) ∧ (0 < a → ∀ c, 0 < c → c < hs.length → (c - 1) / 2 = a → ah (hAt hs c) (hAt hs ((a - 1) / 2)) = false)
theorem rise_hp {ah : Hi → Hi → Bool} (T : Tot ah) (hs : List Hi) (a : Nat) (ha : a < hs.length) (h : HpU ah hs a) : Hp ah (riseF ah hs a) := by
  induction a using Nat.strongRecOn generalizing hs with
  | _ a ih =>
    rw [riseF]
    split
    · rename_i h0
      have hp : (a - 1) / 2 < hs.length := by omega
      split
      · rename_i hah
        refine ih ((a - 1) / 2) (by omega) _ (by rw [swp_len]; omega) ⟨fun i hi hil hne => ?_, fun hb c hc hcl hcb => ?_⟩
        · rw [swp_len] at hil
          rw [swp_at ha hp, swp_at ha hp]
          by_cases e1 : i = a
          · subst e1
            rw [if_neg (by omega), if_pos rfl, if_pos rfl]
            exact T.asy _ _ hah
          · rw [if_neg hne, if_neg e1]
            by_cases e2 : (i - 1) / 2 = (a - 1) / 2
            · rw [if_pos e2]
              have := h.1 i hi hil e1
              rw [e2] at this
              exact T.tr _ _ _ (T.asy _ _ hah) this
            · rw [if_neg e2]
              by_cases e3 : (i - 1) / 2 = a
              · rw [if_pos e3]
                exact h.2 h0 i hi hil e3
              · rw [if_neg e3]
                exact h.1 i hi hil e1
        · rw [swp_len] at hcl
          have hpp := h.1 ((a - 1) / 2) hb hp (by omega)
          have e0 : ((a - 1) / 2 - 1) / 2 ≠ (a - 1) / 2 := by omega
          have e0' : ((a - 1) / 2 - 1) / 2 ≠ a := by omega
          rw [swp_at ha hp, swp_at ha hp, if_neg e0, if_neg e0', if_neg (show c ≠ (a - 1) / 2 by omega)]
          by_cases e1 : c = a
          · rw [if_pos e1]; exact hpp
          · rw [if_neg e1]
            have := h.1 c hc hcl e1
            rw [hcb] at this
            exact T.tr _ _ _ hpp this
      · rename_i hah
        intro i hi hil
        by_cases e : i = a
        · subst e
          simpa using hah
        · exact h.1 i hi hil e
    · rename_i h0
      obtain rfl : a = 0 := by omega
      intro i hi hil
      exact h.1 i hi hil (by omega)
/-- a heap but for what stands below place a -/
def HpD (ah : Hi → Hi → Bool) (hs : List Hi) (a : Nat) : Prop := (∀ i, 0 < i → i < hs.length → (i - 1) / 2 ≠ a → ah (hAt hs i) (hAt hs ((i - 1) / 2)) = false) ∧ (0 < a → ∀ c, 0 < c → c < hs.length → (c - 1) / 2 = a → ah (hAt hs c) (hAt hs ((a - 1) / 2)) = false)
theorem low_le {ah : Hi → Hi → Bool} (T : Tot ah) {hs : List Hi} {a c : Nat} (h : 2 * a + 1 < hs.length) (hc : 0 < c) (hcl : c < hs.length) (hca : (c - 1) / 2 = a) : ah (hAt hs c) (hAt hs (low ah hs a)) = false := by
  have h2 : c = 2 * a + 1 ∨ c = 2 * a + 2 := by omega
  unfold low
  split
  · rename_i h1
    rcases h2 with rfl | rfl
    · exact T.asy _ _ h1.2
    · exact T.irr _
  · rename_i h1
    rcases h2 with rfl | rfl
    · exact T.irr _
    · cases e : ah (hAt hs (2 * a + 2)) (hAt hs (2 * a + 1)) with
      | false => rfl
      | true => exact absurd ⟨hcl, e⟩ h1
theorem sink_hp {ah : Hi → Hi → Bool} (T : Tot ah) (hs : List Hi) (a : Nat) (h : HpD ah hs a) : Hp ah (sinkF ah hs a) := by
  induction hn : hs.length - a using Nat.strongRecOn generalizing hs a with
  | _ n ih =>
    rw [sinkF]
    split
    · rename_i h1
      have hl := low_lt (ah := ah) h1
      have hl2 := low_two (ah := ah) (hs := hs) (a := a)
      have hla : (low ah hs a - 1) / 2 = a := by omega
      obtain ⟨b, hb⟩ : ∃ b, low ah hs a = b := ⟨_, rfl⟩
      have hlow : ∀ c, 0 < c → c < hs.length → (c - 1) / 2 = a → ah (hAt hs c) (hAt hs b) = false := fun c h2 h3 h4 => by rw [← hb]; exact low_le T h1 h2 h3 h4
      rw [hb] at hl hl2 hla ⊢
      have haa : a < hs.length := by omega
      split
      · rename_i hah
        refine ih (hs.length - b) (by omega) _ b ⟨fun i hi hil hne => ?_, fun h0 c hc hcl hcb => ?_⟩ (by rw [swp_len])
        · rw [swp_len] at hil
          rw [swp_at haa hl, swp_at haa hl]
          by_cases e1 : i = b
          · subst e1
            rw [if_pos rfl, if_neg (by omega), if_pos hla]
            exact T.asy _ _ hah
          · rw [if_neg e1, if_neg hne]
            by_cases e2 : i = a
            · subst e2
              rw [if_pos rfl, if_neg (by omega)]
              exact h.2 hi b (by omega) hl hla
            · rw [if_neg e2]
              by_cases e3 : (i - 1) / 2 = a
              · rw [if_pos e3]
                exact hlow i hi hil e3
              · rw [if_neg e3]
                exact h.1 i hi hil e3
        · rw [swp_len] at hcl
          rw [swp_at haa hl, swp_at haa hl, if_neg (show c ≠ b by omega), if_neg (show c ≠ a by omega), if_neg (show (b - 1) / 2 ≠ b by omega), if_pos hla]
          have := h.1 c hc hcl (by omega)
          rw [hcb] at this
          exact this
      · rename_i hah
        intro i hi hil
        by_cases e : (i - 1) / 2 = a
        · rw [e]
          exact T.tr _ _ _ (by simpa using hah) (hlow i hi hil e)
        · exact h.1 i hi hil e
    · rename_i h1
      intro i hi hil
      exact h.1 i hi hil (by omega)
theorem hAt_take {hs : List Hi} {n k : Nat} (h : k < n) : hAt (hs.take n) k = hAt hs k := by
  unfold hAt
  rw [List.getElem?_take, if_pos h]
theorem take_hp {f : It → It → Int} (T : Tot (ahF f)) {hs : List Hi} (h : Hp (ahF f) hs) (hn : 1 ≤ hs.length) : Hp (ahF f) (tkF f hs) := by
  unfold tkF
  refine sink_hp T _ 0 ⟨fun i hi hil hne => ?_, fun h0 => by omega⟩
  simp only [List.length_take, List.length_set] at hil
  rw [hAt_take (by omega), hAt_take (by omega)]
  unfold hAt
  rw [List.getElem?_set_ne (by omega), List.getElem?_set_ne (by omega)]
  exact h i hi (by omega)
theorem add_hp {f : It → It → Int} (T : Tot (ahF f)) {hs : List Hi} (h : Hp (ahF f) hs) (x : Hi) : Hp (ahF f) (riseF (ahF f) (hs ++ [x]) hs.length) := by
  refine rise_hp T _ _ (by simp) ⟨fun i hi hil hne => ?_, fun h0 c hc hcl hca => ?_⟩
  · simp at hil
    unfold hAt
    rw [List.getElem?_append_left (by omega), List.getElem?_append_left (by omega)]
    exact h i hi (by omega)
  · simp at hcl
    omega
theorem adF_hp {f : It → It → Int} (T : Tot (ahF f)) : ∀ (l : List It) (st : List Hi × Int), Hp (ahF f) st.1 → Hp (ahF f) (adF f st l).1
  | [], st, h => h
  | x :: l, st, h => adF_hp T l (ad1 f st x) (add_hp T h (x, st.2))

end Go.Proofs.Ytboikfcmbfaaeaa

namespace Go.Proofs.Ytboikfcmbfaaeaa
set_option linter.unusedVariables false
set_option linter.unusedSimpArgs false

theorem ah_iff (o : Int) (x y : Hi) : ahF (byF o) x y = true ↔ oK o x.1 < oK o y.1 ∨ (oK o x.1 = oK o y.1 ∧ x.2 < y.2) := by
  unfold ahF
  simp only [Bool.or_eq_true, Bool.and_eq_true, decide_eq_true_eq, beq_iff_eq]
  rw [byF_lt, byF_eq]
theorem ah_not (o : Int) (x y : Hi) : ahF (byF o) x y = false ↔ oK o y.1 < oK o x.1 ∨ (oK o x.1 = oK o y.1 ∧ y.2 ≤ x.2) := by
  have := ah_iff o x y
  cases h : ahF (byF o) x y with
  | true =>
    rw [h] at this
    have h2 := this.1 rfl
    constructor
    · intro e; cases e
    · intro e; omega
  | false =>
    rw [h] at this
    have h2 : ¬ (oK o x.1 < oK o y.1 ∨ (oK o x.1 = oK o y.1 ∧ x.2 < y.2)) := fun e => by have := this.2 e; cases this
    exact ⟨fun _ => by omega, fun _ => rfl⟩
theorem tot_by (o : Int) : Tot (ahF (byF o)) := by
  refine ⟨fun a => ?_, fun a b c h1 h2 => ?_, fun a b h => ?_⟩
  · rw [ah_not]; omega
  · rw [ah_not] at *; omega
  · rw [ah_iff] at h; rw [ah_not]; omega
/-- taken so often -/
def tkN (f : It → It → Int) : Nat → List Hi → List Hi
  | 0, hs => hs
  | k + 1, hs => tkN f k (tkF f hs)
theorem tkN_len (f : It → It → Int) : ∀ (k : Nat) (hs : List Hi), k ≤ hs.length → (tkN f k hs).length = hs.length - k
  | 0, hs, h => by simp [tkN]
  | k + 1, hs, h => by
    unfold tkN
    rw [tkN_len f k _ (by rw [tkF_len f hs (by omega)]; omega), tkF_len f hs (by omega)]
    omega
theorem tkN_succ (f : It → It → Int) : ∀ (k : Nat) (hs : List Hi), tkN f (k + 1) hs = tkF f (tkN f k hs)
  | 0, hs => rfl
  | k + 1, hs => tkN_succ f k (tkF f hs)
theorem dr_add (f : It → It → Int) : ∀ (k m : Nat) (hs : List Hi), dr f (k + m) hs = dr f k hs ++ dr f m (tkN f k hs)
  | 0, m, hs => by simp [dr, tkN]
  | k + 1, m, hs => by
    rw [show k + 1 + m = k + m + 1 by omega]
    simp only [dr, tkN, List.cons_append]
    rw [dr_add f k m (tkF f hs)]
theorem dr_snoc (f : It → It → Int) (k : Nat) (hs : List Hi) : dr f (k + 1) hs = dr f k hs ++ [(hAt (tkN f k hs) 0).1] := by
  rw [dr_add]
  rfl
theorem dr_len (f : It → It → Int) : ∀ (n : Nat) (hs : List Hi), (dr f n hs).length = n
  | 0, _ => rfl
  | n + 1, hs => by simp [dr, dr_len f n]
/-- with their numbers -/
def drH (f : It → It → Int) : Nat → List Hi → List Hi
  | 0, _ => []
  | n + 1, hs => hAt hs 0 :: drH f n (tkF f hs)
theorem drH_map (f : It → It → Int) : ∀ (n : Nat) (hs : List Hi), (drH f n hs).map Prod.fst = dr f n hs
  | 0, _ => rfl
  | n + 1, hs => by simp [drH, dr, drH_map f n]
theorem drH_perm (f : It → It → Int) : ∀ (n : Nat) (hs : List Hi), hs.length = n → (drH f n hs).Perm hs
  | 0, hs, h => by obtain rfl := List.eq_nil_of_length_eq_zero h; exact List.Perm.refl _
  | n + 1, hs, h => by
    unfold drH
    exact ((drH_perm f n (tkF f hs) (by rw [tkF_len f hs (by omega)]; omega)).cons _).trans (tkF_perm f hs (by omega))
theorem drH_pw {f : It → It → Int} (T : Tot (ahF f)) : ∀ (n : Nat) (hs : List Hi), hs.length = n → Hp (ahF f) hs → (drH f n hs).Pairwise (fun x y => ahF f y x = false)
  | 0, hs, h, _ => List.Pairwise.nil
  | n + 1, hs, h, hp => by
    have tl := tkF_len f hs (by omega)
    refine List.pairwise_cons.2 ⟨fun y hy => ?_, drH_pw T n (tkF f hs) (by omega) (take_hp T hp (by omega))⟩
    have h1 : y ∈ tkF f hs := (drH_perm f n (tkF f hs) (by omega)).subset hy
    have h2 : y ∈ hs := (tkF_perm f hs (by omega)).subset (List.mem_cons_of_mem _ h1)
    obtain ⟨i, hi, rfl⟩ := List.getElem_of_mem h2
    have := hp_root T hp i hi
    rw [hAt_eq hi] at this
    exact this
/-- a bag of items whose numbers are how they came -/
structure Gd (o : Int) (hs : List Hi) (c : Int) : Prop where
  hp : Hp (ahF (byF o)) hs
  lt : ∀ x ∈ hs, x.2 < c
  ne : hs.Pairwise (fun x y => x.2 ≠ y.2)
  no : ∀ x ∈ hs, x.2 = x.1.2
theorem Gd.nil (o : Int) : Gd o [] 0 := ⟨fun i h1 h2 => by simp at h2, fun x h => (by cases h), List.Pairwise.nil, fun x h => (by cases h)⟩
theorem Gd.take {o : Int} {hs : List Hi} {c : Int} (h : Gd o hs c) (hn : 1 ≤ hs.length) : Gd o (tkF (byF o) hs) c := by
  have hp := tkF_perm (byF o) hs hn
  have sub : ∀ x, x ∈ tkF (byF o) hs → x ∈ hs := fun x hx => hp.subset (List.mem_cons_of_mem _ hx)
  have h3 : (hAt hs 0 :: tkF (byF o) hs).Pairwise (fun x y => x.2 ≠ y.2) := (hp.pairwise_iff (fun h => Ne.symm h)).2 h.ne
  exact ⟨take_hp (tot_by o) h.hp hn, fun x hx => h.lt x (sub x hx), (List.pairwise_cons.1 h3).2, fun x hx => h.no x (sub x hx)⟩
theorem Gd.takeN {o : Int} : ∀ (k : Nat) {hs : List Hi} {c : Int}, Gd o hs c → k ≤ hs.length → Gd o (tkN (byF o) k hs) c
  | 0, hs, c, h, _ => h
  | k + 1, hs, c, h, hk => by
    unfold tkN
    exact Gd.takeN k (h.take (by omega)) (by rw [tkF_len _ hs (by omega)]; omega)
theorem Gd.add1 {o : Int} {st : List Hi × Int} (h : Gd o st.1 st.2) {x : It} (hx : x.2 = st.2) : Gd o (ad1 (byF o) st x).1 (ad1 (byF o) st x).2 := by
  have hp : (ad1 (byF o) st x).1.Perm (st.1 ++ [(x, st.2)]) := riseF_perm _ _ _ (by simp)
  have sub : ∀ y, y ∈ (ad1 (byF o) st x).1 → y ∈ st.1 ∨ y = (x, st.2) := fun y hy => by simpa using hp.subset hy
  refine ⟨add_hp (tot_by o) h.hp _, fun y hy => ?_, (hp.pairwise_iff (fun h => Ne.symm h)).2 (List.pairwise_append.2 ⟨h.ne, by simp, fun a ha b hb => ?_⟩), fun y hy => ?_⟩
  · show y.2 < st.2 + 1
    rcases sub y hy with e | e
    · have := h.lt y e; omega
    · subst e; simp; omega
  · simp at hb
    subst hb
    have := h.lt a ha
    simp
    omega
  · rcases sub y hy with e | e
    · exact h.no y e
    · subst e; exact hx.symm
theorem Gd.add {o : Int} : ∀ (l : List It) (st : List Hi × Int), Gd o st.1 st.2 → (∀ i (h : i < l.length), l[i].2 = st.2 + (i : Int)) → Gd o (adF (byF o) st l).1 (adF (byF o) st l).2 ∧ (adF (byF o) st l).2 = st.2 + (l.length : Int)
  | [], st, h, _ => ⟨h, by simp [adF]⟩
  | x :: l, st, h, hl => by
    have e : adF (byF o) st (x :: l) = adF (byF o) (ad1 (byF o) st x) l := rfl
    have h2 : (ad1 (byF o) st x).2 = st.2 + 1 := rfl
    have := Gd.add l (ad1 (byF o) st x) (h.add1 (by have h0 := hl 0 (by simp); rw [List.getElem_cons_zero] at h0; rw [h0]; simp)) (fun i hi => by
      have := hl (i + 1) (by simpa using hi)
      simp only [List.getElem_cons_succ] at this
      rw [this, h2]
      omega)
    rw [e]
    refine ⟨this.1, ?_⟩
    rw [this.2, h2, List.length_cons]
    omega
theorem dr_rs {o : Int} {hs : List Hi} {c : Int} (h : Gd o hs c) : (dr (byF o) hs.length hs).Pairwise (Rs o) := by
  rw [← drH_map, List.pairwise_map]
  have hp := drH_perm (byF o) hs.length hs rfl
  have h1 := drH_pw (tot_by o) hs.length hs rfl h.hp
  have h2 : (drH (byF o) hs.length hs).Pairwise (fun x y => x.2 ≠ y.2) := (hp.pairwise_iff (fun h => Ne.symm h)).2 h.ne
  refine ((h1.and h2).imp_of_mem ?_)
  intro x y hx hy ⟨e1, e2⟩
  rw [ah_not] at e1
  have n1 := h.no x (hp.subset hx)
  have n2 := h.no y (hp.subset hy)
  unfold Rs
  omega
theorem adF_app (f : It → It → Int) (st : List Hi × Int) (a b : List It) : adF f st (a ++ b) = adF f (adF f st a) b := by unfold adF; rw [List.foldl_append]
/-- all taken: the whole sorted -/
theorem dr_sorted (o : Int) (xs ys : List It) : dr (byF o) (adF (byF o) ([], 0) (nmb 0 xs ++ nmb xs.length ys)).1.length (adF (byF o) ([], 0) (nmb 0 xs ++ nmb xs.length ys)).1 = srt (byF o) 1 (nmb 0 xs ++ nmb xs.length ys) := by
  have g := (Gd.add (o := o) (nmb 0 xs ++ nmb xs.length ys) ([], 0) (Gd.nil o) (fun i hi => by
    simp only [Int.zero_add]
    by_cases h : i < (nmb 0 xs).length
    · rw [List.getElem_append_left h, nmb_get]
      omega
    · rw [List.getElem_append_right (by omega), nmb_get, nmb_len]
      rw [nmb_len] at h
      omega)).1
  refine perm_pw_eq Rs.anti ?_ (dr_rs g) (srt_rs (nmb_both xs ys))
  exact ((dr_perm _ _ _ rfl).trans (by simpa using adF_perm (byF o) (nmb 0 xs ++ nmb xs.length ys) ([], 0))).trans (srt_perm _ _ _).symm
theorem nmb_gd (o : Int) (xs : List It) : Gd o (adF (byF o) ([], 0) (nmb 0 xs)).1 (xs.length : Int) ∧ (adF (byF o) ([], 0) (nmb 0 xs)).2 = (xs.length : Int) := by
  have := Gd.add (o := o) (nmb 0 xs) ([], 0) (Gd.nil o) (fun i hi => by rw [nmb_get]; simp)
  rw [nmb_len] at this
  have e := this.2
  simp only [Int.zero_add] at e
  rw [e] at this
  exact ⟨this.1, e⟩
/-- some taken: the first of the sorted list -/
theorem dr_first (o : Int) (xs : List It) {k : Nat} (hk : k ≤ xs.length) : dr (byF o) k (adF (byF o) ([], 0) (nmb 0 xs)).1 = (srt (byF o) 1 (nmb 0 xs)).take k := by
  have hs := dr_sorted o xs []
  have e0 : nmb xs.length ([] : List It) = [] := by simp [nmb]
  rw [e0, List.append_nil] at hs
  have hl : (adF (byF o) ([], 0) (nmb 0 xs)).1.length = xs.length := by
    have := (adF_perm (byF o) (nmb 0 xs) ([], 0)).length_eq
    simpa [nmb_len] using this
  rw [hl] at hs
  rw [← hs]
  obtain ⟨m, hm⟩ : ∃ m, xs.length = k + m := ⟨xs.length - k, by omega⟩
  rw [hm, dr_add, List.take_left' (dr_len _ _ _)]

/-- what is there behind some takes and more adds -/
theorem rest_gd (o : Int) (xs ys : List It) {k : Nat} (hk : k ≤ xs.length) : Gd o (adF (byF o) (tkN (byF o) k (adF (byF o) ([], 0) (nmb 0 xs)).1, (xs.length : Int)) (nmb xs.length ys)).1 ((xs.length : Int) + ys.length) := by
  have hl : (adF (byF o) ([], 0) (nmb 0 xs)).1.length = xs.length := by
    have := (adF_perm (byF o) (nmb 0 xs) ([], 0)).length_eq
    simpa [nmb_len] using this
  have := Gd.add (o := o) (nmb xs.length ys) (tkN (byF o) k (adF (byF o) ([], 0) (nmb 0 xs)).1, (xs.length : Int)) ((nmb_gd o xs).1.takeN k (by omega)) (fun i hi => by rw [nmb_get]; simp)
  have e := this.2
  rw [e, nmb_len] at this
  exact this.1
theorem tkN_perm (f : It → It → Int) : ∀ (k : Nat) (hs : List Hi), k ≤ hs.length → (dr f k hs ++ (tkN f k hs).map Prod.fst).Perm (hs.map Prod.fst)
  | 0, hs, _ => by simp [dr, tkN]
  | k + 1, hs, h => by
    simp only [dr, tkN, List.cons_append]
    have := tkN_perm f k (tkF f hs) (by rw [tkF_len f hs (by omega)]; omega)
    exact (this.cons _).trans (by simpa using (tkF_perm f hs (by omega)).map Prod.fst)
theorem rest_perm (o : Int) (xs ys : List It) {k : Nat} (hk : k ≤ xs.length) {hs : List Hi} (e : (adF (byF o) (tkN (byF o) k (adF (byF o) ([], 0) (nmb 0 xs)).1, (xs.length : Int)) (nmb xs.length ys)).1 = hs) :
    (dr (byF o) k (adF (byF o) ([], 0) (nmb 0 xs)).1 ++ dr (byF o) hs.length hs).Perm (nmb 0 xs ++ nmb xs.length ys) := by
  have hl : (adF (byF o) ([], 0) (nmb 0 xs)).1.length = xs.length := by
    have := (adF_perm (byF o) (nmb 0 xs) ([], 0)).length_eq
    simpa [nmb_len] using this
  have p1 := dr_perm (byF o) hs.length hs rfl
  have p2 := adF_perm (byF o) (nmb xs.length ys) (tkN (byF o) k (adF (byF o) ([], 0) (nmb 0 xs)).1, (xs.length : Int))
  rw [e] at p2
  have p3 := tkN_perm (byF o) k (adF (byF o) ([], 0) (nmb 0 xs)).1 (by omega)
  have p4 := adF_perm (byF o) (nmb 0 xs) ([], 0)
  simp only [List.map_nil, List.nil_append] at p4
  refine ((p1.trans p2).append_left _).trans ?_
  rw [← List.append_assoc]
  exact (p3.trans p4).append_right _

end Go.Proofs.Ytboikfcmbfaaeaa
