/- NatOwn: what is held, and how it stays -/
import Derived.Test.YtlfkfeedopgfjabGreatDoorOwnA
namespace Go.Proofs.YtlfkfeedopgfjabGreatDoor
open Go.RowKit

structure Hold (base g fb : Nat) (w : World) (t u : Value) (xt ys : List Int) (c d : Nat) (all bk fs : List Value) : Prop where
  tl : Lies w t xt c
  ul : Lies w u ys d
  mem : Mem base w ([t, u] ++ all)
  kept : ∃ lv, Kept base w g lv (nilled bk)
  arr : Arr w fb fs
def Tolds (w : World) (ls : List Value) (V : Nat → Int) : Prop := ∀ j (h : j < ls.length), Told w ls[j] (V j)

variable {base g fb : Nat} {w w' : World} {t u : Value} {xt ys : List Int} {c d : Nat} {all bk fs : List Value}
theorem Hold.below (h : Hold base g fb w t u xt ys c d all bk fs) (hb : Below w.heap.size w w') : Hold base g fb w' t u xt ys c d all bk fs := by
  obtain ⟨lv, hk⟩ := h.kept
  exact ⟨h.tl.below hb, h.ul.below hb, h.mem.below hb, ⟨lv, hk.below hb⟩, h.arr.below hb⟩
theorem Hold.off {lv lv' : Value} {bk' : List Value} (h : Hold base g fb w t u xt ys c d all bk fs) (hk : Kept base w g lv (nilled bk)) (ho : Off g lv w w') (hk' : Kept base w' g lv' (nilled bk')) : Hold base g fb w' t u xt ys c d all bk' fs :=
  ⟨ho.lies hk h.tl, ho.lies hk h.ul, h.mem.off hk ho, ⟨lv', hk'⟩, h.arr.off hk ho⟩
theorem Tolds.below {ls : List Value} {V : Nat → Int} (h : Tolds w ls V) (hb : Below w.heap.size w w') : Tolds w' ls V := fun j hj => (h j hj).below hb
theorem Tolds.off {lv : Value} {ps : List (Value × Value)} {ls : List Value} {V : Nat → Int} (h : Tolds w ls V) (hk : Kept base w g lv ps) (ho : Off g lv w w') : Tolds w' ls V := fun j hj => (h j hj).off hk ho
/-- a cell of an array of lists is written: lists stay -/
theorem Arr.ne (h : Arr w fb fs) {k : Nat} {zs : List Int} (hr : Row .u32 44 w k zs) : k ≠ fb := by
  rintro rfl
  have h1 := h.1
  unfold Row at hr
  rw [hr] at h1
  simp at h1
theorem Lies.arrset {v : Value} {xs : List Int} {c : Nat} (h : Lies w v xs c) (ha : Arr w fb fs) (i : Nat) (x : Value) : Lies (w.setCell ⟨fb, i, none⟩ x) v xs c :=
  h.keep fun k hk => by
    obtain ⟨_, rest, hr, _⟩ := h.own hk
    exact heap_setCell_other w _ k _ (ha.ne hr)
theorem Told.arrset {v : Value} {V : Int} (h : Told w v V) (ha : Arr w fb fs) (i : Nat) (x : Value) : Told (w.setCell ⟨fb, i, none⟩ x) v V := by
  obtain ⟨zs, c, h1, h2⟩ := h
  exact ⟨zs, c, h1.arrset ha i x, h2⟩
theorem Kept.arrset {lv : Value} {ps : List (Value × Value)} (h : Kept base w g lv ps) (ha : Arr w fb fs) (i : Nat) (x : Value) : Kept base (w.setCell ⟨fb, i, none⟩ x) g lv ps := by
  have n1 : g ≠ fb := by
    rintro rfl
    have h1 := h.book
    unfold BookAt at h1
    rw [ha.1] at h1
    simp at h1
  have n2 : lv.ownBlock ≠ some fb := by
    intro e
    rcases h.own.2 with ⟨rfl, _⟩ | ⟨g', cap, cur, rfl, _, h1, _⟩
    · cases e
    · cases e
      rw [ha.1] at h1
      simp at h1
  refine ⟨h.hg, ?_, owns_set h.own _ _ _ n2⟩
  unfold BookAt
  rw [heap_setCell_other w _ g _ n1]
  exact h.book
theorem Mem.arrset {all : List Value} (h : Mem base w all) (ha : Arr w fb fs) (i : Nat) (x : Value) : Mem base (w.setCell ⟨fb, i, none⟩ x) all :=
  ⟨fun v hv => by obtain ⟨xs, c, h1, h2⟩ := h.each v hv; exact ⟨xs, c, h1.arrset ha i x, h2⟩, h.far, h.above⟩
theorem Hold.arrset (h : Hold base g fb w t u xt ys c d all bk fs) (i : Nat) (x : Value) : Hold base g fb (w.setCell ⟨fb, i, none⟩ x) t u xt ys c d all bk (fs.set i x) := by
  obtain ⟨lv, hk⟩ := h.kept
  exact ⟨h.tl.arrset h.arr i x, h.ul.arrset h.arr i x, h.mem.arrset h.arr i x, ⟨lv, hk.arrset h.arr i x⟩, h.arr.set i x⟩
theorem Tolds.arrset {ls : List Value} {V : Nat → Int} (h : Tolds w ls V) (ha : Arr w fb fs) (i : Nat) (x : Value) : Tolds (w.setCell ⟨fb, i, none⟩ x) ls V := fun j hj => (h j hj).arrset ha i x
theorem Arr.other {lb : Nat} {ls : List Value} (h : Arr w lb ls) (hne : lb ≠ fb) (i : Nat) (x : Value) : Arr (w.setCell ⟨fb, i, none⟩ x) lb ls := ⟨by rw [heap_setCell_other w _ lb _ hne]; exact h.1, h.2⟩
theorem Told.shape {v : Value} {V : Int} (h : Told w v V) : ∃ ao L c, v = .slice ao L c := by
  obtain ⟨zs, c, ⟨ao, h1, _⟩, _⟩ := h
  exact ⟨ao, _, c, h1⟩
theorem Told.reads {v : Value} {V : Int} (h : Told w v V) : ∃ zs, Reads .u32 w v zs ∧ zs.length ≤ 1099511627776 := by
  obtain ⟨zs, c, h1, _, _, h2⟩ := h
  exact ⟨zs, h1.reads, by omega⟩
theorem Seven.tolds {lo : Nat} {A B : Int} {N : Nat} {vs : List Value} (h : Seven lo w A B N vs) : Tolds w vs (ans A B N) := fun j hj => (h.num j hj).told
theorem tolds_set {V : Nat → Int} {i : Nat} {x : Value} (h : ∀ j (hj : j < fs.length), j < i → Told w fs[j] (V j)) (hx : Told w x (V i)) : ∀ j (hj : j < (fs.set i x).length), j < i + 1 → Told w (fs.set i x)[j] (V j) := by
  intro j hj hji
  rw [List.getElem_set]
  split
  · rename_i e; subst e; exact hx
  · exact h j (by simpa using hj) (by omega)
/-- a cell of t is written -/
theorem Hold.tset {bt L k : Nat} {m : Int} (h : Hold base g fb w (.slice (some ⟨bt, 0, none⟩) L c) u xt ys c d all bk fs) (hc : 0 < c) (hk : k < xt.length) (hl : xt.length ≤ 4000000) : Hold base g fb (w.setCell ⟨bt, k, none⟩ (.int .u32 m)) (.slice (some ⟨bt, 0, none⟩) L c) u (xt.set k m) ys c d all bk fs := by
  have hb : blk (.slice (some ⟨bt, 0, none⟩) L c) = some bt := by cases c with | zero => omega | succ c => rfl
  obtain ⟨-, rest, hr, -⟩ := h.tl.own hb
  have hg := grown_set w bt k (.int .u32 m)
  obtain ⟨lv, hkp⟩ := h.kept
  have hfar : ∀ v ∈ u :: all, Far (.slice (some ⟨bt, 0, none⟩) L c) v := by
    have h1 := h.mem.far
    rw [List.cons_append, List.pairwise_cons] at h1
    exact fun v hv => h1.1 v (by simpa using hv)
  have hoth : ∀ v ∈ u :: all, ∀ zs e, Lies w v zs e → Lies (w.setCell ⟨bt, k, none⟩ (.int .u32 m)) v zs e := fun v hv zs e hl => hl.grown hg (fun q hq e2 => hfar v hv bt hb (by cases e2; exact hq))
  refine ⟨h.tl.set hc hk m, hoth u (by simp) _ _ h.ul, ⟨fun v hv => ?_, h.mem.far, h.mem.above⟩, ⟨lv, hkp.grown hg (fun q e => by cases e; exact ⟨_, hr⟩)⟩, ?_⟩
  · simp only [List.cons_append, List.nil_append, List.mem_cons] at hv
    rcases hv with rfl | hv
    · exact ⟨_, _, h.tl.set hc hk m, by rw [List.length_set]; exact hl⟩
    · obtain ⟨zs, e, h1, h2⟩ := h.mem.each v (by simp only [List.cons_append, List.nil_append, List.mem_cons]; exact Or.inr hv)
      exact ⟨zs, e, hoth v (by simpa using hv) _ _ h1, h2⟩
  · refine ⟨?_, h.arr.2⟩
    rw [heap_setCell_other w _ fb _ (Ne.symm (h.arr.ne hr))]
    exact h.arr.1
theorem Mem.swap {a b : List Value} (h : Mem base w (a ++ b)) : Mem base w (b ++ a) := by
  have hm : ∀ v, v ∈ b ++ a → v ∈ a ++ b := fun v hv => by simp only [List.mem_append] at hv ⊢; exact hv.symm
  refine ⟨fun v hv => h.each v (hm v hv), ?_, fun v hv => h.above v (hm v hv)⟩
  obtain ⟨h1, h2, h3⟩ := List.pairwise_append.1 h.far
  exact List.pairwise_append.2 ⟨h2, h1, fun x hx y hy => (h3 y hy x hx).symm⟩
theorem set7_list {fs : List Value} (h : fs.length = 7) (a0 a1 a2 a3 a4 a5 a6 : Value) : ((((((fs.set 0 a0).set 1 a1).set 2 a2).set 3 a3).set 4 a4).set 5 a5).set 6 a6 = [a0, a1, a2, a3, a4, a5, a6] := by
  match fs, h with
  | [_, _, _, _, _, _, _], _ => rfl
theorem Hold.set7 (h : Hold base g fb w t u xt ys c d all bk fs) (a0 a1 a2 a3 a4 a5 a6 : Value) :
    Hold base g fb (((((((w.setCell ⟨fb, 0, none⟩ a0).setCell ⟨fb, 1, none⟩ a1).setCell ⟨fb, 2, none⟩ a2).setCell ⟨fb, 3, none⟩ a3).setCell ⟨fb, 4, none⟩ a4).setCell ⟨fb, 5, none⟩ a5).setCell ⟨fb, 6, none⟩ a6) t u xt ys c d all bk [a0, a1, a2, a3, a4, a5, a6] := by
  rw [← set7_list h.arr.2]
  exact ((((((h.arrset 0 a0).arrset 1 a1).arrset 2 a2).arrset 3 a3).arrset 4 a4).arrset 5 a5).arrset 6 a6
theorem Tolds.set7 {ls : List Value} {V : Nat → Int} (h : Tolds w ls V) (ha : Arr w fb fs) (a0 a1 a2 a3 a4 a5 a6 : Value) :
    Tolds (((((((w.setCell ⟨fb, 0, none⟩ a0).setCell ⟨fb, 1, none⟩ a1).setCell ⟨fb, 2, none⟩ a2).setCell ⟨fb, 3, none⟩ a3).setCell ⟨fb, 4, none⟩ a4).setCell ⟨fb, 5, none⟩ a5).setCell ⟨fb, 6, none⟩ a6) ls V := by
  have h0 := ha.set 0 a0
  have h1 := h0.set 1 a1
  have h2 := h1.set 2 a2
  have h3 := h2.set 3 a3
  have h4 := h3.set 4 a4
  have h5 := h4.set 5 a5
  exact ((((((h.arrset ha 0 a0).arrset h0 1 a1).arrset h1 2 a2).arrset h2 3 a3).arrset h3 4 a4).arrset h4 5 a5).arrset h5 6 a6
theorem Arr.other7 {lb : Nat} {ls : List Value} (h : Arr w lb ls) (hne : lb ≠ fb) (a0 a1 a2 a3 a4 a5 a6 : Value) :
    Arr (((((((w.setCell ⟨fb, 0, none⟩ a0).setCell ⟨fb, 1, none⟩ a1).setCell ⟨fb, 2, none⟩ a2).setCell ⟨fb, 3, none⟩ a3).setCell ⟨fb, 4, none⟩ a4).setCell ⟨fb, 5, none⟩ a5).setCell ⟨fb, 6, none⟩ a6) lb ls :=
  ((((((h.other hne 0 a0).other hne 1 a1).other hne 2 a2).other hne 3 a3).other hne 4 a4).other hne 5 a5).other hne 6 a6
/-- seven more lists -/
theorem Hold.add {A B : Int} {N : Nat} {vs : List Value} (h : Hold base g fb w t u xt ys c d all bk fs) (hb : Below w.heap.size w w') (hs : Seven w.heap.size w' A B N vs) (hB : base ≤ w.heap.size) : Hold base g fb w' t u xt ys c d (all ++ vs) bk fs := by
  have h1 := h.below hb
  exact ⟨h1.tl, h1.ul, by rw [← List.append_assoc]; exact h.mem.add hb hs hB, h1.kept, h1.arr⟩

end Go.Proofs.YtlfkfeedopgfjabGreatDoor
