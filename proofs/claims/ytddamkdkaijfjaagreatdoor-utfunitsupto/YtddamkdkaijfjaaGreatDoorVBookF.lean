/- the book: marks are written into all lists -/
import Derived.Test.YtddamkdkaijfjaaGreatDoorVBookK
namespace Go.Proofs.YtddamkdkaijfjaaGreatDoor
open Go.RowKit

/-- the mark of number n -/
def mk (n : Nat) : Int := 1 + ((n : Int) % 65535)

set_option maxHeartbeats 1000000 in
theorem mark_any (n : Nat) (hn : n < 1000000) (w : World) : Calls Tryz.prog 82 #[.int .i64 (n : Int)] w fun e w' => e = .returned (.int .u16 (mk n)) ∧ w' = w := by
  go_enter Tryz.func82, Tryz.ntmps82
  go_wp2
  go_ret
  refine ⟨?_, rfl⟩
  unfold mk
  simp
  try omega

/-- the cells of an entry -/
theorem Kept.ent {base : Nat} {w : World} {g : Nat} {lv : Value} {ps : List (Value × Value)} (h : Kept base w g lv ps) {i : Nat} (hi : i < ps.length) : ∃ gl cap, lv = .slice (some ⟨gl, 0, none⟩) ps.length cap ∧ gl < w.heap.size ∧ ps.length ≤ cap ∧
    w.cell? ⟨gl, i * 3, none⟩ = some ps[i].1 ∧ w.cell? ⟨gl, i * 3 + 1, none⟩ = some ps[i].2 ∧ w.cell? ⟨gl, i * 3 + 2, none⟩ = some (.int .i64 ((i + 1 : Nat) : Int)) := by
  have hc := fun gl (e : lv.ownBlock = some gl) => h.own.cells e
  rcases h.own.2 with ⟨_, h0⟩ | ⟨gl, cap, cur, rfl, _, hgl, hcap, _⟩
  · omega
  · obtain ⟨e1, e2, e3⟩ := ents_get ps 0 i hi
    have hc := hc gl rfl
    have q1 := hc _ _ e1
    have q2 := hc _ _ e2
    have q3 := hc _ _ e3
    simp only [Addr.add_lit, Nat.zero_add] at q1 q2 q3
    exact ⟨gl, cap, rfl, (Array.getElem?_eq_some_iff.1 hgl).1, hcap, q1, q2, q3⟩

/-- each list lies in memory of its own -/
def Each (w : World) (ps : List (Value × Value)) : Prop := ∀ i (h : i < ps.length), ∃ xs c, Lies w ps[i].1 xs c ∧ xs.length ≤ 4000000
def Apart (ps : List (Value × Value)) : Prop := ∀ i j (hi : i < ps.length) (hj : j < ps.length), i ≠ j → ∀ k, blk ps[i].1 = some k → blk ps[j].1 ≠ some k
def Marked (w : World) (v : Value) (m : Int) : Prop := ∃ L c, Lies w v (List.replicate L m) c ∧ L ≤ 4000000

theorem mark_told {x : Int} {n : Nat} (hx : x = n) (hn : n < 1000000) (w : World) : Calls Tryz.prog 82 #[.int .i64 x] w fun e w' => e = .returned (.int .u16 (mk n)) ∧ w' = w := by
  subst hx
  exact mark_any n hn w

/-- an entry in a block of its own -/
def Box (w : World) (b : Nat) (x y : Value) (n : Int) : Prop := w.heap[b]? = some (.cells #[x, y, .int .i64 n] 131 (0, 0))
theorem Box.cells {w : World} {b : Nat} {x y : Value} {n : Int} (h : Box w b x y n) : w.cell? ⟨b, 0, none⟩ = some x ∧ w.cell? ⟨b, 1, none⟩ = some y ∧ w.cell? ⟨b, 2, none⟩ = some (.int .i64 n) :=
  ⟨cell_of_row w b 0 _ _ _ h, cell_of_row w b 1 _ _ _ h, cell_of_row w b 2 _ _ _ h⟩
theorem Box.lt {w : World} {b : Nat} {x y : Value} {n : Int} (h : Box w b x y n) : b < w.heap.size := (Array.getElem?_eq_some_iff.1 h).1
theorem Box.ne {w : World} {b : Nat} {x y : Value} {n : Int} (h : Box w b x y n) {k : Nat} {zs : List Value} (hr : RowV w k zs) : k ≠ b := by
  rintro rfl
  unfold Box at h
  unfold RowV at hr
  rw [hr] at h
  simp at h
theorem grown_refl (w : World) (r : Option Nat) : w.grownBy w r := ⟨rfl, rfl, rfl, Nat.le_refl _, fun _ _ _ => rfl⟩
theorem grown_trans {a b c : World} {r : Option Nat} (h : a.grownBy b r) (k : b.grownBy c r) : a.grownBy c r :=
  ⟨k.os.trans h.os, k.tape.trans h.tape, k.output.trans h.output, Nat.le_trans h.size k.size, fun i hi hr => (k.block i (Nat.lt_of_lt_of_le hi h.size) hr).trans (h.block i hi hr)⟩
theorem grown_set (w : World) (b i : Nat) (x : Value) : w.grownBy (w.setCell ⟨b, i, none⟩ x) (some b) := by
  have hz := (Below.refl 0 w).setCell (p := ⟨b, i, none⟩) (Nat.zero_le _) x
  exact ⟨hz.os, hz.tape, hz.output, hz.size, fun k _ hk => heap_setCell_other w _ k _ (fun e => hk (by rw [e]))⟩
theorem grown_drew {a b : World} {r : Option Nat} (h : a.grownBy b r) : a.grownBy b.drew r := ⟨h.os, h.tape, h.output, h.size, h.block⟩
theorem Box.grown {w w' : World} {b : Nat} {x y : Value} {n : Int} {r : Option Nat} (h : Box w b x y n) (hg : w.grownBy w' r) (hr : ∀ k, r = some k → ∃ zs, RowV w k zs) : Box w' b x y n := by
  unfold Box
  rw [hg.block b h.lt (fun e => by obtain ⟨zs, hz⟩ := hr b e.symm; exact h.ne hz rfl)]
  exact h
theorem Kept.grown {base : Nat} {w w' : World} {g : Nat} {lv : Value} {ps : List (Value × Value)} {r : Option Nat} (h : Kept base w g lv ps) (hg : w.grownBy w' r) (hr : ∀ k, r = some k → ∃ zs, RowV w k zs) : Kept base w' g lv ps := by
  refine ⟨h.hg, h.book.grown hg (fun e => ?_), h.own.kept hg ?_⟩
  · obtain ⟨zs, hz⟩ := hr g e
    exact (h.ne hz).1 rfl
  · by_cases e : lv.ownBlock = none
    · exact .inl e
    · refine .inr fun e2 => ?_
      cases hlb : lv.ownBlock with
      | none => exact e hlb
      | some k =>
        obtain ⟨zs, hz⟩ := hr k (by rw [← e2, hlb])
        exact (h.ne hz).2 hlb
theorem Lies.grown {w w' : World} {v : Value} {xs : List Int} {c : Nat} {r : Option Nat} (h : Lies w v xs c) (hg : w.grownBy w' r) (hne : ∀ k, blk v = some k → r ≠ some k) : Lies w' v xs c :=
  h.keep fun k hk => hg.block k (h.lt hk) (Ne.symm (hne k hk))
theorem Lies.rows {w : World} {v : Value} {xs : List Int} {c : Nat} (h : Lies w v xs c) : ∀ k, blk v = some k → ∃ zs, RowV w k zs := fun k hk => by
  obtain ⟨_, rest, hr, _⟩ := h.own hk
  exact ⟨_, hr⟩
theorem grown_below {base : Nat} {w0 w w' : World} {r : Option Nat} (h : Below base w0 w) (hb : base ≤ w.heap.size) (hg : w.grownBy w' r) (hr : ∀ k, r = some k → base ≤ k) : Below base w0 w' :=
  ⟨hg.os.trans h.os, hg.tape.trans h.tape, hg.output.trans h.output, Nat.le_trans h.size hg.size, fun k hk => (hg.block k (by omega) (fun e => by have := hr k e.symm; omega)).trans (h.block k hk)⟩
/-- one cell of a list is written -/
theorem Lies.set {w : World} {b c k : Nat} {zs : List Int} {n : Nat} (h : Lies w (.slice (some ⟨b, 0, none⟩) n c) zs c) (hc : 0 < c) (hk : k < zs.length) (m : Int) : Lies (w.setCell ⟨b, k, none⟩ (.int .u16 m)) (.slice (some ⟨b, 0, none⟩) n c) (zs.set k m) c := by
  obtain ⟨ao, hv, h1, h2, h3⟩ := h
  cases hv
  obtain ⟨g, rest, hg, h4, h5⟩ := h3 hc
  cases hg
  refine ⟨_, by rw [List.length_set], by rw [List.length_set]; exact h1, h2, fun _ => ⟨b, rest, rfl, ?_, by simpa using h5⟩⟩
  have := h4.set k (.int .u16 m)
  rw [List.set_append_left _ _ (by simpa using hk)] at this
  rw [List.map_set]
  exact this
theorem take_mark {zs : List Int} {k : Nat} {m : Int} (hk : k < zs.length) (h : zs.take k = List.replicate k m) : (zs.set k m).take (k + 1) = List.replicate (k + 1) m := by
  rw [List.take_succ_eq_append_getElem (by simpa using hk), List.take_set_of_le (Nat.le_refl _), h, List.replicate_succ']
  simp

set_option maxRecDepth 100000 in
set_option maxHeartbeats 4000000 in
theorem fill_any {base : Nat} {w : World} {g : Nat} {lv : Value} {ps : List (Value × Value)} (h : Kept base w g lv ps) (hb : base ≤ w.heap.size) (hn : ps.length < 1000) (he : Each w ps) (ha : Apart ps) (hbk : ∀ i (h : i < ps.length) k, blk ps[i].1 = some k → base ≤ k) (hz : ∀ i (h : i < ps.length), ps[i].2 = .slice none 0 0) :
    Calls Tryz.prog 41 #[.pointer (some ⟨g, 0, none⟩)] w fun e w' => e = .returned (.tuple #[]) ∧ Kept base w' g lv ps ∧ (∀ i (h : i < ps.length), Marked w' ps[i].1 (mk (i + 1))) ∧ Below base w w' := by
  go_enter Tryz.func41, Tryz.ntmps41
  go_wp2
  go_loopw [2] (fun si wr => ∃ i : Nat, i ≤ ps.length ∧ si = .int .i64 i ∧ Kept base wr g lv ps ∧ Each wr ps ∧ (∀ j (h : j < ps.length), j < i → Marked wr ps[j].1 (mk (j + 1))) ∧ Below base w wr) (fun si _ => ps.length - (intOf si).toNat)
  case atStart => exact ⟨0, by omega, rfl, h, he, fun j _ h => by omega, Below.refl _ _⟩
  case round =>
    obtain ⟨i, hil, rfl, hk, he, hm, hbr⟩ := hrel
    have c1 := hk.book.cell 7
    simp only [bookCells] at c1
    by_cases hi : i < ps.length
    · obtain ⟨gl, cap, rfl, hgl, hcap, q1, q2, q3⟩ := hk.ent hi
      have hi' : (i : Int) < (ps.length : Int) := by omega
      obtain ⟨xs, c, hl, hxl⟩ := he i hi
      obtain ⟨ao, hv, hxc, hcm, hrow⟩ := id hl
      rw [hv] at q1
      rw [hz i hi] at q2
      have Hk := hide hk
      have Hl := hide hl
      have Hv := hide hv
      clear hk hl hv
      go_wp2
      obtain ⟨wo, rfl⟩ : ∃ x : World, x = wr := ⟨_, rfl⟩
      go_loopw [4] (fun sk wr2 => ∃ (k : Nat) (zs : List Int), k ≤ xs.length ∧ sk = .int .i64 k ∧ zs.length = xs.length ∧ zs.take k = List.replicate k (mk (i + 1)) ∧ Lies wr2 (.slice ao xs.length c) zs c ∧ Box wr2 wo.heap.size (.slice ao xs.length c) (.slice none 0 0) ((i : Int) + 1) ∧
          (wo.alloc (.cells #[.slice ao xs.length c, .slice none 0 0, .int .i64 ((i : Int) + 1)] 131)).grownBy wr2 (blk (.slice ao xs.length c))) (fun sk _ => xs.length - (intOf sk).toNat)
      case atStart => exact ⟨0, xs, by omega, rfl, rfl, rfl, by rw [← Hv.out]; exact Hl.out.grown (World.grownBy_alloc wo _ none) (fun _ _ e => by cases e), heap_alloc_new wo _, grown_refl _ _⟩
      case round =>
        obtain ⟨k, zs, hkl, rfl, hzl, hzt, hlz, hbox, hgr⟩ := hrel
        obtain ⟨b0, b1, b2⟩ := hbox.cells
        by_cases hkx : k < xs.length
        · obtain ⟨b, rest0, rfl, -, -⟩ := hrow (by omega)
          have hbk' : blk (.slice (some ⟨b, 0, none⟩) xs.length c) = some b := by cases c with | zero => omega | succ c => rfl
          obtain ⟨-, rest, hrw, -⟩ := hlz.own hbk'
          have g2 := hrw.cellI (i := k) (by omega)
          have hfz := hrw.frozen k
          have hne := hbox.ne hrw
          have hne' : wo.heap.size ≠ b := fun e => hne e.symm
          have hk' := hide (show (k : Int) < (xs.length : Int) by omega)
          have Hzl := hide hzl
          have Hzt := hide hzt
          clear hrow hzl hzt
          go_wp2
          go_region_held3 (fun w' => w'.cell? ⟨wo.heap.size, 0, none⟩ = some (.slice (some ⟨b, 0, none⟩) xs.length c) ∧ w'.cell? ⟨wo.heap.size, 2, none⟩ = some (.int .i64 ((i : Int) + 1)))
            (first
              | go_keep)
            (first
              | (go_at_call 82; refine (mark_told (n := i + 1) (by omega) (by omega) _).mono ?_; rintro e w3 ⟨rfl, rfl⟩))
          go_wp2
          go_roundw
          case rel => exact ⟨k + 1, zs.set k (mk (i + 1)), by omega, by go_num, by rw [List.length_set, Hzl.out], take_mark (by rw [Hzl.out]; omega) Hzt.out, Lies.set hlz (by omega) (by rw [Hzl.out]; omega) _, Box.grown hbox (grown_drew (grown_set wr b k _)) (fun j e => by cases e; exact ⟨_, hrw⟩), by
            rw [hbk'] at hgr ⊢
            exact grown_trans hgr (grown_drew (grown_set wr b k _))⟩
          case measure => simp [intOf]; omega
        · have hke : ¬ (k : Int) < (xs.length : Int) := by omega
          have hkx' : k = xs.length := by omega
          have hal := World.grownBy_alloc wo (.cells #[.slice ao xs.length c, .slice none 0 0, .int .i64 ((i : Int) + 1)] 131) (blk ps[i].1)
          rw [← Hv.out] at hgr hlz hal
          have hg2 := grown_trans hal hgr
          have hk2 := Hk.out.grown hg2 Hl.out.rows
          have hzr : zs = List.replicate xs.length (mk (i + 1)) := by
            rw [hkx'] at hzt
            rw [← hzt, List.take_of_length_le (by omega)]
          have hfin : Kept base wr g (.slice (some ⟨gl, 0, none⟩) ps.length cap) ps ∧ Each wr ps ∧ (∀ j (h : j < ps.length), j < i + 1 → Marked wr ps[j].1 (mk (j + 1))) ∧ Below base w wr := by
            refine ⟨hk2, fun j hj => ?_, fun j hj hji => ?_, grown_below hbr (by have := hbr.size; omega) hg2 (hbk i hi)⟩
            · by_cases e : j = i
              · subst e
                exact ⟨zs, c, hlz, by rw [hzl]; exact hxl⟩
              · obtain ⟨ys, d, h1, h2⟩ := he j hj
                exact ⟨ys, d, h1.grown hg2 (fun q hq e2 => ha j i hj hi e q hq e2), h2⟩
            · by_cases e : j = i
              · subst e
                exact ⟨xs.length, c, by rw [← hzr]; exact hlz, hxl⟩
              · obtain ⟨ys, d, h1, h2⟩ := hm j hj (by omega)
                exact ⟨ys, d, h1.grown hg2 (fun q hq e2 => ha j i hj hi e q hq e2), h2⟩
          have Hfin := hide hfin
          clear hfin hk2 hg2 hal hgr hlz hzr hkx' hzl hzt
          go_wp2
          go_roundw
          case rel => exact ⟨i + 1, by omega, by go_num, Hfin.out⟩
          case measure => simp [intOf]; omega
    · have hi' : ¬ (i : Int) < (ps.length : Int) := by omega
      have hfin : Kept base wr g lv ps ∧ (∀ j (h : j < ps.length), Marked wr ps[j].1 (mk (j + 1))) ∧ Below base w wr := ⟨hk, fun j hj => hm j hj (by omega), hbr⟩
      have Hfin := hide hfin
      have hsh : ∃ lo cap, lv = .slice lo ps.length cap := by
        rcases h.own.2 with ⟨rfl, h0⟩ | ⟨gl, cap, cur, rfl, _⟩
        · exact ⟨none, 0, by rw [h0]⟩
        · exact ⟨_, _, rfl⟩
      obtain ⟨lo, cap, rfl⟩ := hsh
      clear hk hm hbr hfin
      go_wp2
      go_end0
      exact ⟨rfl, Hfin.out⟩

end Go.Proofs.YtddamkdkaijfjaaGreatDoor
