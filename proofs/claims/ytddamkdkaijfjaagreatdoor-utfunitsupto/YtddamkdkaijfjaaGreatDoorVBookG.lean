/- the book: more is put behind all lists -/
import Derived.Test.YtddamkdkaijfjaaGreatDoorVBookA
namespace Go.Proofs.YtddamkdkaijfjaaGreatDoor
open Go.RowKit

theorem Kept.entN {base : Nat} {w : World} {g n : Nat} {lv : Value} {qs : List (Value × Value)} (h : Kept base w g lv qs) (hn : qs.length = n) {i : Nat} (hi : i < qs.length) : ∃ gl cap, lv = .slice (some ⟨gl, 0, none⟩) n cap ∧ gl < w.heap.size ∧ n ≤ cap ∧
    w.cell? ⟨gl, i * 3, none⟩ = some qs[i].1 ∧ w.cell? ⟨gl, i * 3 + 1, none⟩ = some qs[i].2 ∧ w.cell? ⟨gl, i * 3 + 2, none⟩ = some (.int .i64 ((i + 1 : Nat) : Int)) := by
  subst hn
  exact h.ent hi
theorem Kept.shape {base : Nat} {w : World} {g n : Nat} {lv : Value} {qs : List (Value × Value)} (h : Kept base w g lv qs) (hn : qs.length = n) : ∃ lo cap, lv = .slice lo n cap := by
  subst hn
  rcases h.own.2 with ⟨rfl, h0⟩ | ⟨gl, cap, cur, rfl, _⟩
  · exact ⟨none, 0, by rw [h0]⟩
  · exact ⟨_, _, rfl⟩
theorem grown_app {W0 w w' : World} {r r' : Option Nat} (h : W0.grownBy w r) (k : w.grownBy w' r') (hr : r' = r ∨ ∀ q, r' = some q → W0.heap.size ≤ q) : W0.grownBy w' r :=
  ⟨k.os.trans h.os, k.tape.trans h.tape, k.output.trans h.output, Nat.le_trans h.size k.size, fun i hi hne => (k.block i (Nat.lt_of_lt_of_le hi h.size) (fun e => by
    rcases hr with rfl | hr
    · exact hne e
    · have := hr i e.symm; omega)).trans (h.block i hi hne)⟩
theorem set_fst {qs : List (Value × Value)} {i j : Nat} (hi : i < qs.length) (x : Value) (hj : j < (qs.set i (qs[i].1, x)).length) : (qs.set i (qs[i].1, x))[j].1 = (qs[j]'(by simpa using hj)).1 := by
  rw [List.getElem_set]
  split
  · rename_i e; subst e; rfl
  · rfl
theorem set_snd_ne {qs : List (Value × Value)} {i j : Nat} (hi : i < qs.length) (x : Value) (hj : j < (qs.set i (qs[i].1, x)).length) (hne : i ≠ j) : (qs.set i (qs[i].1, x))[j].2 = (qs[j]'(by simpa using hj)).2 := by
  rw [List.getElem_set, if_neg hne]
theorem set_snd_eq {qs : List (Value × Value)} {i : Nat} (hi : i < qs.length) (x : Value) (hj : i < (qs.set i (qs[i].1, x)).length) : (qs.set i (qs[i].1, x))[i].2 = x := by
  rw [List.getElem_set, if_pos rfl]

/-- the row of entries, one cell of it written -/
theorem Kept.set {base : Nat} {w : World} {g gl n cap : Nat} {qs : List (Value × Value)} (h : Kept base w g (.slice (some ⟨gl, 0, none⟩) n cap) qs) {i : Nat} (hi : i < qs.length) (x : Value) :
    Kept base (w.setCell ⟨gl, i * 3 + 1, none⟩ x) g (.slice (some ⟨gl, 0, none⟩) n cap) (qs.set i (qs[i].1, x)) := by
  have hne : g ≠ gl := fun e => book_own_ne h.book h.own (by rw [e]; rfl)
  refine ⟨h.hg, ?_, ?_⟩
  · unfold BookAt
    rw [heap_setCell_other w _ g _ hne, List.length_set]
    exact h.book
  · rcases h.own.2 with ⟨e, _⟩ | ⟨g', cap', cur, e, hb, hg, hnc, hcm, hcs, htk⟩
    · cases e
    · cases e
      refine ⟨by rw [ents_length], .inr ⟨gl, cap, cur.setIfInBounds (i * 3 + 1) x, by rw [List.length_set], hb, heap_setCell_same w gl _ _ _ _ hg, by rw [List.length_set]; exact hnc, hcm, by simpa using hcs, ?_⟩⟩
      rw [← ents_set qs 0 i hi x, ← htk, List.length_set]
      simp only [Array.toList_setIfInBounds]
      rw [List.take_set]

theorem cells_fresh (w : World) (E : TypeId) (k : IntKind) (x : Int) : Cells k (w.alloc (.cells #[.int k x] E)) (some ⟨w.heap.size, 0, none⟩) [x] := by
  intro _
  refine ⟨w.heap.size, 0, rfl, by simp, fun i hi => ?_⟩
  have hi0 : i = 0 := by simp at hi; omega
  subst hi0
  rw [cell_of_row _ w.heap.size 0 _ _ _ (heap_alloc_new w _)]
  rfl
theorem wpList_append_mark {P : Program} (w : World) {ops : Array Oper} {rest : List Oper} {o : Oper} {a : Act} {Q : Exit → Act → World → Prop} (hgd : o.guard = none) (s x : Operand) (t : TypeId)
    (ho : o.op = .call { callee := .builtin .append, args := #[s, x], argTypes := #[t, t] }) (ht : P.underlying t = some (.slice 52)) (hinf : (P.info? 52).map (fun i => (i.zero, i.size, i.bytes)) = some (some (.int .u16 0), 1, 2))
    (v : Value) (n : Nat) (m : Int) (c : Nat) (hs : a.eval s = v) (h : Lies w v (List.replicate n m) c) (ad : Addr) (cx : Nat) (hx : a.eval x = .slice (some ad) 1 cx) (hc : Cells .u16 w (some ad) [m]) (h63 : n + 1 ≤ 17592186044416)
    (hK : ∀ ao' c' w', Lies w' (.slice ao' (n + 1) c') (List.replicate (n + 1) m) c' → w.grownBy w' (blk v) → (blk (.slice ao' (n + 1) c') = blk v ∨ blk (.slice ao' (n + 1) c') = some w.heap.size) → (∀ u zs d, Lies w u zs d → zs.length ≤ n → Lies w' u zs d) → wpList P ops Q rest (a.put o.dst (.slice ao' (n + 1) c')) w') :
    wpList P ops Q (o :: rest) a w := by
  refine wpList_append_lie w hgd s x t ho ht hinf v (List.replicate n m) c hs h ad cx m hx hc (by simpa using h63) ?_
  intro ao' c' w' h1 h2 h3 h4
  rw [List.length_replicate] at h1 h3 h4 ⊢
  rw [← List.replicate_succ'] at h1
  exact hK ao' c' w' h1 h2 h3 h4

/-- what has grown -/
def GrownAt (w : World) (qs : List (Value × Value)) (j : Nat) (h : j < qs.length) : Prop :=
  ∃ ao L c ao' c', qs[j].1 = .slice ao L c ∧ qs[j].2 = .slice ao' (L + 70) c' ∧ Lies w (.slice ao L c) (List.replicate L (mk (j + 1))) c ∧ Lies w (.slice ao' (L + 70) c') (List.replicate (L + 70) (mk (j + 1))) c' ∧ L ≤ 4000000 ∧
    ∀ j' (h' : j' < qs.length), j' ≠ j → ∀ q, blk (.slice ao' (L + 70) c') = some q → blk qs[j'].1 ≠ some q
structure GrowInv (base : Nat) (w : World) (g : Nat) (lv : Value) (n i : Nat) (qs : List (Value × Value)) : Prop where
  len : qs.length = n
  kept : Kept base w g lv qs
  apart : Apart qs
  above : ∀ j (h : j < qs.length) k, blk qs[j].1 = some k → base ≤ k
  nil : ∀ j (h : j < qs.length), i ≤ j → qs[j].2 = .slice none 0 0
  marked : ∀ j (h : j < qs.length), Marked w qs[j].1 (mk (j + 1))
  grown : ∀ j (h : j < qs.length), j < i → GrownAt w qs j h

theorem Lies.setOther {base : Nat} {w : World} {g gl n cap p : Nat} {qs : List (Value × Value)} {u x : Value} {xs : List Int} {c : Nat} (h : Lies w u xs c) (hk : Kept base w g (.slice (some ⟨gl, 0, none⟩) n cap) qs) : Lies (w.setCell ⟨gl, p, none⟩ x) u xs c :=
  h.keep fun k hb => by
    obtain ⟨_, rest, hr, _⟩ := h.own hb
    exact heap_setCell_other w _ k _ (fun e => (hk.ne hr).2 (by rw [e]; rfl))
theorem Kept.entAt {base : Nat} {w : World} {g gl n cap : Nat} {qs : List (Value × Value)} (h : Kept base w g (.slice (some ⟨gl, 0, none⟩) n cap) qs) (hn : qs.length = n) {i : Nat} (hi : i < qs.length) :
    w.cell? ⟨g, 7, none⟩ = some (.slice (some ⟨gl, 0, none⟩) n cap) ∧ w.cell? ⟨gl, i * 3 + 1, none⟩ = some qs[i].2 ∧ w.frozen? ⟨gl, i * 3 + 1, none⟩ = false := by
  obtain ⟨gl', cap', e, _, _, _, q2, _⟩ := h.entN hn hi
  cases e
  rcases h.own.2 with ⟨e, _⟩ | ⟨g', cap', cur, e, hb, hg, _⟩
  · cases e
  · cases e
    exact ⟨h.book.cell 7, q2, frozen_of_row w gl _ _ _ hg⟩
theorem Lies.len_eq {w w' : World} {u : Value} {xs ys : List Int} {c d : Nat} (h : Lies w u xs c) (k : Lies w' u ys d) : xs.length = ys.length := by
  obtain ⟨ao, rfl, _⟩ := h
  obtain ⟨ao', e, _⟩ := k
  injection e

/-- the invariant behind one list's growth -/
theorem grow_step {base : Nat} {wo wr : World} {g gl n cap i : Nat} {qs : List (Value × Value)} {ao ao' : Option Addr} {L c c' : Nat} {box : Obj} (hI : GrowInv base wo g (.slice (some ⟨gl, 0, none⟩) n cap) n i qs) (hi : i < qs.length) (hv : qs[i].1 = .slice ao L c) (hLm : L ≤ 4000000)
    (hl : Lies wo (.slice ao L c) (List.replicate L (mk (i + 1))) c) (hlong : Lies wr (.slice ao' (L + 70) c') (List.replicate (L + 70) (mk (i + 1))) c') (hlz : Lies wr (.slice ao L c) (List.replicate L (mk (i + 1))) c)
    (hwhere : blk (.slice ao' (L + 70) c') = blk (.slice ao L c) ∨ ∀ q, blk (.slice ao' (L + 70) c') = some q → wo.heap.size + 1 ≤ q) (hgr : (wo.alloc box).grownBy wr (blk (.slice ao L c))) :
    Kept base wr g (.slice (some ⟨gl, 0, none⟩) n cap) qs ∧ GrowInv base (wr.setCell ⟨gl, i * 3 + 1, none⟩ (.slice ao' (L + 70) c')) g (.slice (some ⟨gl, 0, none⟩) n cap) n (i + 1) (qs.set i (qs[i].1, .slice ao' (L + 70) c')) ∧ wo.grownBy wr (blk (.slice ao L c)) := by
  have hg2 := grown_trans (World.grownBy_alloc wo box (blk (.slice ao L c))) hgr
  have hk2 := hI.kept.grown hg2 hl.rows
  have hfar : ∀ j (h : j < qs.length), j ≠ i → ∀ u xs d, Lies wo u xs d → (∀ q, blk u = some q → blk (.slice ao L c) ≠ some q) → Lies (wr.setCell ⟨gl, i * 3 + 1, none⟩ (.slice ao' (L + 70) c')) u xs d :=
    fun j h hne u xs d hu hq => (hu.grown hg2 hq).setOther hk2
  refine ⟨hk2, ⟨by rw [List.length_set]; exact hI.len, hk2.set hi _, ?_, ?_, ?_, ?_, ?_⟩, hg2⟩
  · intro a b ha hb hne k hk
    rw [set_fst hi] at hk ⊢
    exact hI.apart a b _ _ hne k hk
  · intro j hj k hk
    rw [set_fst hi] at hk
    exact hI.above j _ k hk
  · intro j hj hij
    rw [set_snd_ne hi _ _ (by omega)]
    exact hI.nil j _ (by omega)
  · intro j hj
    rw [set_fst hi]
    by_cases e : j = i
    · subst e
      rw [hv]
      exact ⟨L, c, hlz.setOther hk2, hLm⟩
    · have hj' : j < qs.length := by simpa using hj
      obtain ⟨L', c2, h1, h2⟩ := hI.marked j hj'
      exact ⟨L', c2, hfar j hj' e _ _ _ h1 (fun q hq e2 => hI.apart j i hj' hi e q hq (by rw [hv]; exact e2)), h2⟩
  · intro j hj hji
    have hj' : j < qs.length := by simpa using hj
    by_cases e : j = i
    · subst e
      refine ⟨ao, L, c, ao', c', by rw [set_fst hi]; exact hv, set_snd_eq hi _ _, hlz.setOther hk2, hlong.setOther hk2, hLm, ?_⟩
      intro j' h' hne q hq
      rw [set_fst hi]
      have h'' : j' < qs.length := by simpa using h'
      rcases hwhere with e | e
      · rw [e, ← hv] at hq
        exact hI.apart j j' hi h'' (Ne.symm hne) q hq
      · intro hb
        have h1 := e q hq
        obtain ⟨_, _, h3, _⟩ := hI.marked j' h''
        have := h3.lt hb
        omega
    · obtain ⟨a1, L1, c1, a2, c2, e1, e2, l1, l2, hL1, hw⟩ := hI.grown j hj' (by omega)
      refine ⟨a1, L1, c1, a2, c2, by rw [set_fst hi]; exact e1, by rw [set_snd_ne hi _ _ (by omega)]; exact e2, ?_, ?_, hL1, ?_⟩
      · exact hfar j hj' e _ _ _ l1 (fun q hq e2 => hI.apart j i hj' hi e q (by rw [e1]; exact hq) (by rw [hv]; exact e2))
      · exact hfar j hj' e _ _ _ l2 (fun q hq e3 => hw i hi (Ne.symm e) q hq (by rw [hv]; exact e3))
      · intro j' h' hne q hq
        rw [set_fst hi]
        exact hw j' _ hne q hq

set_option maxRecDepth 100000 in
set_option maxHeartbeats 4000000 in
theorem grow_any {base : Nat} {w : World} {g : Nat} {lv : Value} {ps : List (Value × Value)} (h : GrowInv base w g lv ps.length 0 ps) (hb : base ≤ w.heap.size) (hn : ps.length < 1000) :
    Calls Tryz.prog 55 #[.pointer (some ⟨g, 0, none⟩)] w fun e w' => e = .returned (.tuple #[]) ∧ (∃ qs, GrowInv base w' g lv ps.length ps.length qs) ∧ Below base w w' := by
  go_enter Tryz.func55, Tryz.ntmps55
  go_wp2
  go_loopw [2] (fun si wr => ∃ i : Nat, ∃ qs, i ≤ ps.length ∧ si = .int .i64 i ∧ GrowInv base wr g lv ps.length i qs ∧ Below base w wr) (fun si _ => ps.length - (intOf si).toNat)
  case atStart => exact ⟨0, ps, by omega, rfl, h, Below.refl _ _⟩
  case round =>
    obtain ⟨i, qs, hil, rfl, hI, hbr⟩ := hrel
    have c1 := hI.kept.book.cell 7
    simp only [bookCells] at c1
    have Hlen := hide hI.len
    by_cases hi : i < ps.length
    · have hiq : i < qs.length := by rw [Hlen.out]; exact hi
      obtain ⟨gl, cap, rfl, hgl, hcap, q1, q2, q3⟩ := hI.kept.entN hI.len hiq
      have hi' : (i : Int) < (ps.length : Int) := by omega
      obtain ⟨L, c, hl, hLm⟩ := hI.marked i hiq
      obtain ⟨ao, hv, hxc, hcm, hrow⟩ := id hl
      rw [List.length_replicate] at hv hxc
      rw [hv] at q1
      rw [hI.nil i hiq (Nat.le_refl _)] at q2
      have HI := hide hI
      have Hl := hide hl
      have Hv := hide hv
      clear hI hl hv hrow
      go_wp2
      obtain ⟨wo, rfl⟩ : ∃ x : World, x = wr := ⟨_, rfl⟩
      go_loopw [4, 5] (fun sl sk wr2 => ∃ (k : Nat) (ao' : Option Addr) (c' : Nat), k ≤ 70 ∧ sk = .int .i64 k ∧ sl = .slice ao' (L + k) c' ∧ Lies wr2 (.slice ao' (L + k) c') (List.replicate (L + k) (mk (i + 1))) c' ∧ Lies wr2 (.slice ao L c) (List.replicate L (mk (i + 1))) c ∧ Box wr2 wo.heap.size (.slice ao L c) (.slice none 0 0) ((i : Int) + 1) ∧
          (blk (.slice ao' (L + k) c') = blk (.slice ao L c) ∨ ∀ q, blk (.slice ao' (L + k) c') = some q → wo.heap.size + 1 ≤ q) ∧
          (wo.alloc (.cells #[.slice ao L c, .slice none 0 0, .int .i64 ((i : Int) + 1)] 131)).grownBy wr2 (blk (.slice ao L c))) (fun _ sk _ => 70 - (intOf sk).toNat)
      case atStart =>
        have hl2 : Lies (wo.alloc (.cells #[.slice ao L c, .slice none 0 0, .int .i64 ((i : Int) + 1)] 131)) (.slice ao L c) (List.replicate L (mk (i + 1))) c := by
          rw [← Hv.out]; exact Hl.out.grown (World.grownBy_alloc wo _ none) (fun _ _ e => by cases e)
        exact ⟨0, ao, c, by omega, rfl, rfl, hl2, hl2, heap_alloc_new wo _, .inl rfl, grown_refl _ _⟩
      case round =>
        obtain ⟨k, ao', c', hk70, rfl, rfl, hlong, hlz, hbox, hwhere, hgr⟩ := hrel
        obtain ⟨b0, b1, b2⟩ := hbox.cells
        by_cases hkx : k < 70
        · have hkx' : (k : Int) < 70 := by omega
          go_wp2_with fail
          refine (mark_told (n := i + 1) (by omega) (by omega) _).mono ?_
          rintro e w3 ⟨rfl, rfl⟩
          have hal := World.grownBy_alloc w3 (.cells #[.int .u16 (mk (i + 1))] 52)
          go_wp2_with (at_builtin; refine wpList_append_mark _ rfl _ _ 48 rfl Tryz.underlying48 Tryz.infoXUnit _ (L + k) (mk (i + 1)) c' rfl (hlong.grown (hal none) (fun _ _ e => by cases e)) _ 1 rfl (cells_fresh _ _ _ _) (by omega) ?_)
          intro ao2 c2 w4 g1 g2 g3 g4
          have hsz := hgr.size
          have hsz2 : (wo.alloc (.cells #[.slice ao L c, .slice none 0 0, .int .i64 ((i : Int) + 1)] 131)).heap.size = wo.heap.size + 1 := by simp
          have hsz3 : (w3.alloc (.cells #[.int .u16 (mk (i + 1))] 52)).heap.size = w3.heap.size + 1 := by simp
          have hlz2 := hlz.grown (hal none) (fun _ _ e => by cases e)
          have hlz4 := g4 _ _ _ hlz2 (by simp)
          have hlg2 := hlong.grown (hal none) (fun _ _ e => by cases e)
          have hbox4 : Box w4 wo.heap.size (.slice ao L c) (.slice none 0 0) ((i : Int) + 1) := (hbox.grown (hal none) (fun _ e => by cases e)).grown g2 hlg2.rows
          have hgr4 : (wo.alloc (.cells #[.slice ao L c, .slice none 0 0, .int .i64 ((i : Int) + 1)] 131)).grownBy w4 (blk (.slice ao L c)) := by
            refine grown_app (grown_trans hgr (hal _)) g2 ?_
            rcases hwhere with e | e
            · exact .inl e
            · exact .inr (fun q hq => by have := e q hq; omega)
          have hwh4 : blk (.slice ao2 (L + k + 1) c2) = blk (.slice ao L c) ∨ ∀ q, blk (.slice ao2 (L + k + 1) c2) = some q → wo.heap.size + 1 ≤ q := by
            rcases g3 with e | e
            · rw [e]; exact hwhere
            · exact .inr (fun q hq => by rw [e] at hq; cases hq; omega)
          have Hfin := hide (And.intro g1 (And.intro hlz4 (And.intro hbox4 (And.intro hwh4 hgr4))))
          clear g1 g2 g3 g4 hlz4 hlz2 hlg2 hbox4 hgr4 hwh4 hal hsz hsz2 hsz3 hlong hlz hbox hgr hwhere b0 b1 b2
          go_wp2
          go_roundw
          case rel => exact ⟨k + 1, ao2, c2, by omega, by go_num, rfl, Hfin.out⟩
          case measure => simp [intOf]; omega
        · have hk7 : k = 70 := by omega
          subst hk7
          have hl3 : Lies wo (.slice ao L c) (List.replicate L (mk (i + 1))) c := by rw [← Hv.out]; exact Hl.out
          obtain ⟨hk2, hI2, hg2⟩ := grow_step HI.out hiq Hv.out hLm hl3 hlong hlz hwhere hgr
          obtain ⟨d1, d2, d3⟩ := hk2.entAt HI.out.len hiq
          rw [HI.out.nil i hiq (Nat.le_refl _)] at d2
          have hbr2 : Below base w (wr.setCell ⟨gl, i * 3 + 1, none⟩ (.slice ao' (L + 70) c')) := by
            refine (grown_below hbr (by have := hbr.size; omega) hg2 (fun k hk => HI.out.above i hiq k (by rw [Hv.out]; exact hk))).setCell (p := ⟨gl, i * 3 + 1, none⟩) ?_ _
            exact (HI.out.kept.own.lt gl rfl).1
          have Hfin := hide (And.intro hI2 hbr2)
          have hks : ¬ ((70 : Nat) : Int) < 70 := by omega
          clear hk2 hI2 hg2 hbr2 hlong hlz hbox hwhere hgr hl3 b0 b1 b2
          go_wp2
          go_roundw
          case rel => exact ⟨i + 1, _, by omega, by go_num, Hfin.out⟩
          case measure => simp [intOf]; omega
    · have hie : i = ps.length := by omega
      subst hie
      obtain ⟨lo, cap, rfl⟩ := hI.kept.shape hI.len
      have Hfin := hide (And.intro (Exists.intro qs hI) hbr)
      clear hI hbr
      go_wp2
      go_end0
      exact ⟨rfl, Hfin.out⟩

end Go.Proofs.YtddamkdkaijfjaaGreatDoor
