/- order.Merge: the two lists as one, new -/
import Derived.OwnWalkIn
import Derived.Test.YtomieeajmelglaaOStc
import Derived.Test.YtomieeajmelglaaORuns
namespace Go.Proofs.Ytomieeajmelglaa
open Go.RowKit Go.Shelf
set_option linter.unusedVariables false
set_option linter.unusedSimpArgs false
attribute [local go_sem] Oper.semAt_some

theorem owns_blk {W W' : World} {base e g n cap : Nat} {xs : List Value} (h : W.ownsRow base e 2 (.slice (some ⟨g, 0, none⟩) n cap) n xs) (hg : g < W.heap.size → W'.heap[g]? = W.heap[g]?) : W'.ownsRow base e 2 (.slice (some ⟨g, 0, none⟩) n cap) n xs := by
  obtain ⟨h0, ⟨h1, _⟩ | ⟨g', cap', cur, h1, h2, h3, h4⟩⟩ := h
  · cases h1
  · cases h1
    exact ⟨h0, .inr ⟨g, cap, cur, rfl, h2, (hg (Array.getElem?_eq_some_iff.1 h3).1).trans h3, h4⟩⟩
theorem owns_full {W : World} {base g n : Nat} {l : List It} (h : W.ownsRow base 27 2 (.slice (some ⟨g, 0, none⟩) n l.length) n (flat l)) (hn : n = l.length) : Own12 base W (.slice (some ⟨g, 0, none⟩) n l.length) l := by
  obtain ⟨h0, ⟨h1, _⟩ | ⟨g', cap', cur, h1, h2, h3, h4, h5, h6, h7⟩⟩ := h
  · cases h1
  · cases h1
    subst hn
    refine .inr ⟨g, rfl, h2, ?_, h5⟩
    have e : cur.toList = flat l := by rw [← h7, List.take_of_length_le (by rw [Array.length_toList, h6]; exact Nat.le_refl _)]
    unfold ItRow
    rw [h3, ← e]
theorem owns_kept {W W' : World} {base e g n cap : Nat} {xs : List Value} {row : Option Nat} (h : W.ownsRow base e 2 (.slice (some ⟨g, 0, none⟩) n cap) n xs) (hg : W.grownBy W' row) (ne : some g ≠ row) : W'.ownsRow base e 2 (.slice (some ⟨g, 0, none⟩) n cap) n xs := by
  obtain ⟨h0, ⟨h1, _⟩ | ⟨g', cap', cur, h1, h2, h3, h4⟩⟩ := h
  · cases h1
  · cases h1
    exact ⟨h0, .inr ⟨g, cap, cur, rfl, h2, (hg.block g (Array.getElem?_eq_some_iff.1 h3).1 ne).trans h3, h4⟩⟩
/-- between two rounds -/
def MgI (base g Bo cap : Nat) (w8 : World) (pre : List It) (W : World) : Prop := W.ownsRow base 27 2 (.slice (some ⟨g, 0, none⟩) pre.length cap) pre.length (flat pre) ∧ Boxed W Bo 22 (.slice (some ⟨g, 0, none⟩) pre.length cap) ∧ BelX (fun k => k = g ∨ k = Bo) w8.heap.size w8 W
theorem mgi_own {base g Bo cap : Nat} {w8 : World} (h1 : g < w8.heap.size) (h2 : Bo < w8.heap.size) : OwnFrom w8.heap.size (MgI base g Bo cap w8) := by
  rintro pre W W' row ⟨a, b, f⟩ hg hr
  have ne : ∀ r, r < w8.heap.size → some r ≠ row := fun r h e => by have := (hr r e.symm).1; omega
  exact ⟨owns_kept a hg (ne _ h1), b.kept hg (ne _ h2), f.trans (BelX.grown hg f.size (fun r e => .inl (hr r e).1))⟩
theorem mgi_step {base g Bo cap : Nat} {w8 : World} {pre : List It} {W W' : World} {x : It} {o : Obj} (h : MgI base g Bo cap w8 pre W) (h1 : g < w8.heap.size) (h2 : Bo < w8.heap.size) (hne : Bo ≠ g)
    (ho : W'.ownsRow base 27 2 (.slice (some ⟨g, 0, none⟩) (pre.length + 1) cap) (pre.length + 1) (flat pre ++ flat [x])) (hg : (W.alloc o).grownBy W' (some g)) :
    KeepsFrom w8.heap.size W (W'.setCell ⟨Bo, 0, none⟩ (.slice (some ⟨g, 0, none⟩) (pre.length + 1) cap)) ∧ BelX (fun k => k = g ∨ k = Bo) w8.heap.size W (W'.setCell ⟨Bo, 0, none⟩ (.slice (some ⟨g, 0, none⟩) (pre.length + 1) cap)) ∧ MgI base g Bo cap w8 (pre ++ [x]) (W'.setCell ⟨Bo, 0, none⟩ (.slice (some ⟨g, 0, none⟩) (pre.length + 1) cap)) := by
  obtain ⟨a, b, f⟩ := h
  have b1 : BelX (fun k => k = g ∨ k = Bo) w8.heap.size W (W.alloc o) := BelX.of ((Below.refl _ W).alloc (Nat.le_refl _) _) f.size
  have b2 : BelX (fun k => k = g ∨ k = Bo) w8.heap.size (W.alloc o) W' := BelX.grown hg (Nat.le_trans f.size b1.size) (fun k e => by cases e; exact .inr (.inl rfl))
  have b3 : BelX (fun k => k = g ∨ k = Bo) w8.heap.size W' (W'.setCell ⟨Bo, 0, none⟩ (.slice (some ⟨g, 0, none⟩) (pre.length + 1) cap)) := belx_set _ _ (.inr rfl)
  have bx := (b1.trans b2).trans b3
  refine ⟨?_, bx, ?_, ?_, f.trans bx⟩
  · exact (((KeepsOthers.alloc W o).from _).trans (KeepsFrom.of_grownBy hg (fun j e => by cases e; exact h1))).trans ((KeepsOthers.setCell _ _ _).from _)
  · rw [List.length_append, List.length_singleton, flat_append]
    exact owns_kept ho (grownBy_setCell' W' Bo _) (fun e => hne (by cases e; rfl))
  · rw [List.length_append, List.length_singleton]
    exact ((b.alloc o).kept hg (fun e => hne (by cases e; rfl))).set _

set_option maxRecDepth 100000 in
set_option maxHeartbeats 8000000 in
theorem merge_any {w : World} {va vb cv : Value} {xs ys : List It} {f : It → It → Int} {I : World → Prop} (ha : ItRd (fun _ => True) w va xs) (hb : ItRd (fun _ => True) w vb ys) (hl : xs.length + ys.length ≤ 8796093022200)
    (hc : CmpIs I cv f) (hIw : I w) (hI : ∀ W W', I W → Below w.heap.size W W' → I W') :
    Calls Try.prog 16 #[va, vb, cv] w fun e w' => (∃ v, e = .returned v ∧ Own12 w.heap.size w' v (mrg f xs ys)) ∧ Below w.heap.size w w' := by
  obtain ⟨m, hm⟩ : ∃ m, xs.length + ys.length = m := ⟨_, rfl⟩
  have mk := mk_room2 (n := m) (by omega)
  obtain ⟨Z, hZ⟩ : ∃ Z, mrg f xs ys = Z := ⟨_, rfl⟩
  have hZl : Z.length = m := by rw [← hZ, mrg_len, hm]
  rw [hZ]
  have HZ := hide hZ
  clear hZ
  have hcc := hc
  obtain ⟨cg, cl, rfl, eg, hcall⟩ := hc.val
  have HA := hide ha
  have HB := hide hb
  obtain ⟨ao, ca, rfl, hac, ham, -⟩ := ha
  obtain ⟨bo, cb, rfl, hbc, hbm, -⟩ := hb
  have HCC := hide hcc
  have HIw := hide hIw
  have HI := hide hI
  unfold maxLen at ham hbm
  have e1 : IntKind.i64.wrap ((xs.length : Int) + (ys.length : Int)) = (m : Int) := by rw [IntKind.wrap_i64]; omega
  have e2 : (xs.length : Int) + (ys.length : Int) = (m : Int) := by omega
  have hfn : ∀ (w : World) f a c, (binOp .eql 28 (.func f a c) .nilFunc).run Try.prog w = .ok (.bool false) w := ofunc_nil itdesc
  obtain ⟨W0, hW0⟩ : ∃ u, w.alloc (.cells (flat (List.replicate m ((0, 0) : It))).toArray 27) = u := ⟨_, rfl⟩
  have K0 : Hid (Below w.heap.size w W0) := by rw [← hW0]; exact hide ((Below.refl _ w).alloc (Nat.le_refl _) _)
  have O0 : Hid (W0.ownsRow w.heap.size 27 2 (.slice (some ⟨w.heap.size, 0, none⟩) 0 m) 0 []) := by
    rw [← hW0]
    exact hide (World.ownsRow_made w _ m (Nat.le_refl _) (by unfold maxLen; omega) (by simp [flat_len]))
  have S0 : W0.heap.size = w.heap.size + 1 := by rw [← hW0]; simp
  have HM := hide hm
  clear hcc hc hcall hIw hI hm
  refine (callsIn_wide (n := 4)).1 ?_
  refine callsIn_of_wp_marks Try.func16 rfl trivial ?_ rfl
  simp only [Try.ntmps16, List.size_toArray, List.length_cons, List.length_nil, Nat.reduceAdd, Nat.reduceSub, Array.replicate_succ, Array.replicate_zero, List.push_toArray, List.append_toArray, List.nil_append, List.cons_append]
  refine wpIn_wide.2 ?_
  go_wp2_with fail
  obtain ⟨W1, hW1⟩ : ∃ u, W0.alloc (.cells #[.slice (some ⟨w.heap.size, 0, none⟩) 0 m] 22) = u := ⟨_, rfl⟩
  have bO : Boxed W1 (w.heap.size + 1) 22 (.slice (some ⟨w.heap.size, 0, none⟩) 0 m) := by rw [← hW1, ← S0]; exact Boxed.new _ _ _
  have O1 : W1.ownsRow w.heap.size 27 2 (.slice (some ⟨w.heap.size, 0, none⟩) 0 m) 0 [] := by rw [← hW1]; exact O0.out.alloc _
  have K1 : Below w.heap.size w W1 := by rw [← hW1]; exact K0.out.alloc (by omega) _
  have S1 : W1.heap.size = w.heap.size + 2 := by rw [← hW1]; simp [S0]
  rw [hW1]
  refine itmerged_box.mono ?_
  rintro e w8 ⟨rfl, b1, b2, b3, hb8⟩
  have hs8 : W1.heap.size + 2 < w8.heap.size := b3.lt
  have K8 : Hid (Below w.heap.size w w8) := hide (K1.trans (hb8.mono K1.size))
  have BO : Hid (Boxed w8 (w.heap.size + 1) 22 (.slice (some ⟨w.heap.size, 0, none⟩) 0 m)) := hide ((hb8.block _ bO.lt).trans bO)
  have O8 : Hid (w8.ownsRow w.heap.size 27 2 (.slice (some ⟨w.heap.size, 0, none⟩) 0 m) 0 []) := hide (owns_blk O1 (fun h => hb8.block _ h))
  have RA : ItRd (fun g => g < w8.heap.size ∧ ¬ (g = w.heap.size ∨ g = w.heap.size + 1)) w8 (.slice ao xs.length ca) xs := ((HA.out.mono (H := fun g => g < w.heap.size) (fun g hg _ => hg)).below K8.out).mono (fun g hg h => ⟨hg, by omega⟩)
  have RB : ItRd (fun g => g < w8.heap.size ∧ ¬ (g = w.heap.size ∨ g = w.heap.size + 1)) w8 (.slice bo ys.length cb) ys := ((HB.out.mono (H := fun g => g < w.heap.size) (fun g hg _ => hg)).below K8.out).mono (fun g hg h => ⟨hg, by omega⟩)
  have hseq := itmerged_stops (n := 3) (X := fun k => k = w.heap.size ∨ k = w.heap.size + 1) (n₀ := w8.heap.size) (by omega) b1 b2 b3 ⟨by omega, by omega⟩ ⟨by omega, by omega⟩ ⟨by omega, by omega⟩ RA RB HCC.out (HI.out w w8 HIw.out K8.out) (fun U U' h kk => HI.out U U' h (kk.below (by omega) (fun k hk e => by omega))) (Nat.le_refl _) (by omega) (by omega)
  rw [HZ.out, HM.out] at hseq
  have HSEQ := hide hseq
  clear hseq RA RB b1 b2 b3 hb8 O1 bO K1 hW1 hW0 mk hfn
  have h80 : w.heap.size < w8.heap.size := by omega
  have h81 : w.heap.size + 1 < w8.heap.size := by omega
  clear S1 S0
  go_wp2_with fail
  refine (wpIn_wide (n := 4)).1 ?_
  refine' wpIn_rangeFunc_ownH rfl (by omega) (gf := 52) (lb := #[.pointer (some ⟨W1.heap.size, 0, none⟩), .pointer (some ⟨W1.heap.size + 1, 0, none⟩), .pointer (some ⟨W1.heap.size + 2, 0, none⟩)]) (by simp [go_sem]) trivial (enters_of Try.func52 (by kernel_rfl) rfl)
    HSEQ.out BelX.trans (fun W l o o' hl _ _ _ => belx_putObj o' hl) (Below.refl _ _) (fun _ => rfl)
    (fun pre W' => MgI w.heap.size w.heap.size (w.heap.size + 1) m w8 pre W')
    (fun _ _ _ => False) (mgi_own h80 h81) (fun _ _ _ _ _ hs _ _ => hs) ⟨O8.out, BO.out, BelX.refl _ _ _⟩
    (fun x a' W' => ∃ Bx, w8.heap.size ≤ Bx ∧ W'.heap[Bx]? = some (.cells #[.int .i64 x.1, .int .i64 x.2] 27 (0, 0)) ∧ a' = { tmps := #[.slice ao xs.length ca, .slice bo ys.length cb, .func (.func cg) #[] cl, undef, undef, undef, .slice none 0 0, .pointer (some ⟨w.heap.size + 1, 0, none⟩), .pointer (some ⟨Bx, 0, none⟩), .func (.func cg) #[] cl, .bool false, .slice ao xs.length ca, .int .i64 xs.length, .slice bo ys.length cb, .int .i64 ys.length, .int .i64 m, .slice (some ⟨w.heap.size, 0, none⟩) 0 m, .slice ao xs.length ca, .slice bo ys.length cb, .func (.func cg) #[] cl, .func (.func 52) #[] #[.pointer (some ⟨W1.heap.size, 0, none⟩), .pointer (some ⟨W1.heap.size + 1, 0, none⟩), .pointer (some ⟨W1.heap.size + 2, 0, none⟩)], itV x, undef, undef, undef, undef, undef], defers := [] }) ?hAx ?hassign ?hbody ?hdone ?hstop
  case hAx =>
    rintro x a' u X Y row ⟨Bx, h1, h2, h3⟩ hg hr
    exact ⟨Bx, h1, (hg.block Bx (Array.getElem?_eq_some_iff.1 h2).1 (fun e => by obtain ⟨_, o, ho, hc⟩ := hr Bx e.symm; rw [h2] at ho; cases ho; cases hc)).trans h2, h3⟩
  case hassign =>
    rintro l pre x W' K hi hK
    gi_wp2
    have hs8 := hi.2.2.size
    exact hK _ _ ((KeepsOthers.alloc _ _).from _) (BelX.of ((Below.refl _ W').alloc (Nat.le_refl _) _) hs8) (mgi_own h80 h81 pre W' _ none hi (World.grownBy_alloc _ _ none) (fun r e => by cases e)) ⟨W'.heap.size, hs8, World.alloc_heap_new W' _, rfl⟩
  case hbody =>
    rintro l pre x a' W' hl hr hi ⟨Bx, hBx, hx0, rfl⟩ hlt
    obtain ⟨x1, x2⟩ := x
    have c4 := hi.2.1.cell
    have f4 := hi.2.1.frozen
    have cx0 := cell_of_row W' _ 0 _ _ _ hx0
    have cx1 := cell_of_row W' _ 1 _ _ _ hx0
    simp at cx0 cx1
    have HI8 := hide hi
    obtain ⟨i0, hi0, hz0, hz1, hz2⟩ := info_parts itinfoM
    have OW := hide (hi.1.alloc (.cells #[.int .i64 x1, .int .i64 x2] 27))
    have NW := hide (fun j u hu => news_items (w := W'.alloc (.cells #[.int .i64 x1, .int .i64 x2] 27)) (g := W'.heap.size) (o := 0) (xs := [(x1, x2)]) (by
      intro i hi
      have hi0 : i = 0 := by simp at hi; omega
      subst hi0
      have q := ItRow.cell (show ItRow _ W'.heap.size [(x1, x2)] from heap_alloc_new W' _) (i := 0) (by simp)
      exact q) j u hu)
    have BO' : Hid (Boxed W' (w.heap.size + 1) 22 (.slice (some ⟨w.heap.size, 0, none⟩) pre.length m)) := hide hi.2.1
    clear hi hx0
    gi_wp2_with (gi_at_builtin; refine wpListIn_append_fits _ rfl _ _ 22 rfl w.heap.size 27 i0 2 Try.underlying22 hi0 hz1 w.heap.size pre.length m (flat pre) rfl OW.out ⟨W'.heap.size, 0, none⟩ 1 1 (flat [(x1, x2)]) rfl rfl NW.out (flat_one _) (by omega) ?_)
    intro w2 own2 grn2
    have ST := hide (mgi_step HI8.out h80 h81 (by omega) own2 grn2)
    have BB := ((BO'.out.alloc (.cells #[.int .i64 x1, .int .i64 x2] 27)).kept grn2 (fun e => by injection e; omega)).frozen
    have BC := ((BO'.out.alloc (.cells #[.int .i64 x1, .int .i64 x2] 27)).kept grn2 (fun e => by injection e; omega)).cell
    clear own2 grn2
    gi_wp2
    exact ST.out
  case hdone =>
    rintro D zs W' hD rfl hi hK
    have cO := hi.2.1.cell
    have HI9 := hide hi
    clear hi
    go_wp2
    refine marks_leave (A := w8.heap.size) (Inv := fun u => MgI w.heap.size w.heap.size (w.heap.size + 1) m w8 zs u) ?_ ?_ [D] _ (by simp; exact ⟨hD, hK⟩) (by simp) HI9.out
    · rintro u D ⟨i1, i2, i3⟩ hD hu
      exact ⟨owns_blk i1 (fun _ => World.putObj_heap_other (fun e => by omega)), (World.putObj_heap_other (fun e => by omega)).trans i2, i3.trans (belx_putObj _ (by omega))⟩
    · rintro u ⟨i1, i2, i3⟩
      refine ⟨_, results_tmp rfl _ _ _, ⟨_, rfl, ?_⟩, K8.out.trans (i3.below (by omega) (fun k hk e => by omega))⟩
      rw [← hZl] at i1 ⊢
      exact owns_full i1 rfl
  case hstop =>
    rintro D c pre W' hD hpx h hK
    exact h.elim

end Go.Proofs.Ytomieeajmelglaa
