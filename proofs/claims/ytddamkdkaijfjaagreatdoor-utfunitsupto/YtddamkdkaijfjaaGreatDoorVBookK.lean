/- the book: a list is kept -/
import Derived.Test.YtddamkdkaijfjaaGreatDoorVBook
import Derived.Deep.RegionLaw
namespace Go.Proofs.YtddamkdkaijfjaaGreatDoor
open Go.RowKit

/-- all but the book and its own lists stays -/
structure Off (g : Nat) (lv : Value) (w w' : World) : Prop where
  os : w'.os = w.os
  tape : w'.tape = w.tape
  output : w'.output = w.output
  size : w.heap.size ≤ w'.heap.size
  block : ∀ k, k < w.heap.size → k ≠ g → lv.ownBlock ≠ some k → w'.heap[k]? = w.heap[k]?

theorem Off.below {base g : Nat} {lv : Value} {ps : List (Value × Value)} {w w' : World} (h : Off g lv w w') (hk : Kept base w g lv ps) (hb : base ≤ w.heap.size) : Below base w w' :=
  ⟨h.os, h.tape, h.output, h.size, fun k hk' => h.block k (by omega) (by have := hk.hg; omega) (fun e => by have := (hk.own.lt k e).1; omega)⟩
theorem Off.row {base g : Nat} {lv : Value} {ps : List (Value × Value)} {w w' : World} (h : Off g lv w w') (hk : Kept base w g lv ps) {k : Nat} {zs : List Value} (hr : RowV w k zs) : RowV w' k zs := by
  unfold RowV
  rw [h.block k hr.lt (hk.ne hr).1 (hk.ne hr).2]
  exact hr
theorem Off.lies {base g : Nat} {lv : Value} {ps : List (Value × Value)} {w w' : World} (h : Off g lv w w') (hk : Kept base w g lv ps) {v : Value} {xs : List Int} {c : Nat} (hl : Lies w v xs c) : Lies w' v xs c :=
  hl.keep fun k hb => by
    obtain ⟨_, rest, hr, _⟩ := hl.own hb
    exact h.block k hr.lt (hk.ne hr).1 (hk.ne hr).2

theorem owns_form {w : World} {base : Nat} {e : TypeId} {z : Nat} {v : Value} {n : Nat} {xs : List Value} (h : w.ownsRow base e z v (n + 1) xs) : ∃ g cap, v = .slice (some ⟨g, 0, none⟩) (n + 1) cap := by
  rcases h.2 with ⟨_, h⟩ | ⟨g, cap, cur, rfl, _⟩
  · omega
  · exact ⟨g, cap, rfl⟩
/-- append of one entry of three cells, as one step of a region that draws its order -/
theorem step_append_ent {P : Program} {ops : Array Oper} {o : Oper} {a : Act} {w : World} {K : Act → World → Prop} {Q : Exit → Act → World → Prop} {E : Prop} (hgd : o.guard = none) (s x : Operand) (t : TypeId)
    (ho : o.op = .call { callee := .builtin .append, args := #[s, x], argTypes := #[t, t] })
    (base : Nat) (e : TypeId) (z : Value) (bytes : Nat) (ht : P.underlying t = some (.slice e)) (hinf : (P.info? e).map (fun i => (i.zero, i.size, i.bytes)) = some (some z, 3, bytes)) (hz3 : z.cells.size = 3)
    (v : Value) (n : Nat) (xs : List Value) (hs : a.eval s = v) (hown : w.ownsRow base e 3 v n xs) (g c : Nat) (cs : Array Value) (e' : TypeId) (hcs : cs.size = 3) (hx : a.eval x = .slice (some ⟨g, 0, none⟩) 1 c) (hblk : w.heap[g]? = some (.cells cs e' (0, 0)))
    (h1 : ∀ u ∈ cs.toList, u.oneCell' = true) (h63 : n + 1 ≤ maxLen) (hbytes : (n + 1) * bytes ≤ 140737488355328) (hbase : base ≤ w.heap.size)
    (h : ∀ g' cap' w', w'.ownsRow base e 3 (.slice (some ⟨g', 0, none⟩) (n + 1) cap') (n + 1) (xs ++ cs.toList) → w.grownBy w' v.ownBlock → K (a.put o.dst (.slice (some ⟨g', 0, none⟩) (n + 1) cap')) w') :
    if Region.wanted o (yielded ops a.tmps) = true then Oper.wp P o a w K Q else E := by
  have hw : Region.wanted o (yielded ops a.tmps) = true := by simp [Region.wanted, hgd]
  rw [if_pos hw]
  obtain ⟨i, hi, hz, hsz, hby⟩ := info_parts hinf
  exact wp_append_own w s x t ho base e i z 3 bytes ht hi hz hsz hby hz3 (by decide) v n xs hs hown ⟨g, 0, none⟩ 1 c cs.toList hx (by simpa using hcs) (World.news_of_block hblk) h1 h63 hbytes hbase fun v' w' h2 h3 _ => by
    obtain ⟨g', cap', rfl⟩ := owns_form h2
    exact h g' cap' w' h2 h3

theorem Tryz.infoHeld : (Tryz.prog.info? 131).map (fun i => (i.zero, i.size, i.bytes)) = some (some (.agg #[.slice none 0 0, .slice none 0 0, .int .i64 0]), 3, 56) := by kernel_rfl

theorem BookAt.set0 {w : World} {g n : Nat} {lv : Value} (h : BookAt w g n lv) (m : Nat) : BookAt (w.setCell ⟨g, 0, none⟩ (.int .i64 (m : Int))) g m lv := by
  unfold BookAt
  rw [heap_setCell_same w g 0 _ _ _ h]
  rfl
theorem BookAt.set1 {w : World} {g n : Nat} {lv : Value} (h : BookAt w g n lv) (lv' : Value) : BookAt (w.setCell ⟨g, 7, none⟩ lv') g n lv' := by
  unfold BookAt
  rw [heap_setCell_same w g 7 _ _ _ h]
  rfl

theorem BookAt.alloc {w : World} {g n : Nat} {lv : Value} (h : BookAt w g n lv) (o : Obj) : BookAt (w.alloc o).drew g n lv := by
  have e : (w.alloc o).drew.heap[g]? = w.heap[g]? := heap_alloc_old w o h.lt
  unfold BookAt
  rw [e]
  exact h
theorem BookAt.grown {w w' : World} {g n : Nat} {lv : Value} {row : Option Nat} (h : BookAt w g n lv) (hg : w.grownBy w' row) (hne : row ≠ some g) : BookAt w' g n lv := by
  unfold BookAt
  rw [hg.block g h.lt (Ne.symm hne)]
  exact h
theorem BookAt.told {w : World} {g n : Nat} {lv : Value} (h : BookAt w g (n + 1) lv) : w.cell? ⟨g, 0, none⟩ = some (.int .i64 ((n : Int) + 1)) ∧ w.cell? ⟨g, 7, none⟩ = some lv ∧ w.frozen? ⟨g, 7, none⟩ = false :=
  ⟨h.cell 0, h.cell 7, frozen_of_row w g 7 _ _ h⟩

theorem owns_set {w : World} {base : Nat} {e : TypeId} {z : Nat} {v : Value} {n : Nat} {xs : List Value} (h : w.ownsRow base e z v n xs) (g i : Nat) (x : Value) (hne : v.ownBlock ≠ some g) : (w.setCell ⟨g, i, none⟩ x).ownsRow base e z v n xs := by
  refine ⟨h.1, ?_⟩
  rcases h.2 with hn | ⟨g', cap, cur, rfl, hb, hgg, rest⟩
  · exact .inl hn
  · refine .inr ⟨g', cap, cur, rfl, hb, ?_, rest⟩
    rw [heap_setCell_other w _ g' _ (fun e => hne (by simp only [Value.ownBlock]; rw [e]))]
    exact hgg
theorem book_own_ne {w : World} {base : Nat} {z : Nat} {lv v : Value} {g n m : Nat} {xs : List Value} (h : BookAt w g m lv) (ho : w.ownsRow base 131 z v n xs) : v.ownBlock ≠ some g := fun e => by
  rcases ho.2 with ⟨rfl, _⟩ | ⟨g', cap, cur, rfl, _, h1, _⟩
  · cases e
  · cases e
    unfold BookAt at h
    rw [h1] at h
    simp at h

/-- what is there when a list has been kept -/
theorem keep_fin {base : Nat} {w w1 w4 : World} {g : Nat} {lv v lv' : Value} {ps : List (Value × Value)} {o : Obj} (h : Kept base w g lv ps) (hs1 : w1.heap.size = w.heap.size) (hoff1 : ∀ k, k ≠ g → w1.heap[k]? = w.heap[k]?) (hos : w1.os = w.os ∧ w1.tape = w.tape ∧ w1.output = w.output)
    (hk4 : BookAt w4 g (ps.length + 1) lv) (hown' : w4.ownsRow base 131 3 lv' (ps.length + 1) (ents ps 0 ++ [v, .slice none 0 0, .int .i64 ((ps.length : Int) + 1)])) (hgrow : (w1.alloc o).drew.grownBy w4 lv.ownBlock) :
    Kept base (w4.setCell ⟨g, 7, none⟩ lv') g lv' (ps ++ [(v, .slice none 0 0)]) ∧ Off g lv w (w4.setCell ⟨g, 7, none⟩ lv') := by
  have hsz : (w1.alloc o).drew.heap.size = w1.heap.size + 1 := by simp
  have e : ents (ps ++ [(v, Value.slice none 0 0)]) 0 = ents ps 0 ++ [v, .slice none 0 0, .int .i64 ((ps.length : Int) + 1)] := by
    rw [ents_append]; simp [ents]
  have el : (ps ++ [(v, Value.slice none 0 0)]).length = ps.length + 1 := by simp
  refine ⟨⟨h.hg, by rw [el]; exact hk4.set1 lv', by rw [el, e]; exact owns_set hown' _ _ _ (book_own_ne hk4 hown')⟩, ?_, ?_, ?_, ?_, ?_⟩
  · exact ((Below.refl 0 w4).setCell (p := ⟨g, 7, none⟩) (Nat.zero_le _) lv').os.trans (hgrow.os.trans hos.1)
  · exact ((Below.refl 0 w4).setCell (p := ⟨g, 7, none⟩) (Nat.zero_le _) lv').tape.trans (hgrow.tape.trans hos.2.1)
  · exact ((Below.refl 0 w4).setCell (p := ⟨g, 7, none⟩) (Nat.zero_le _) lv').output.trans (hgrow.output.trans hos.2.2)
  · have h1 := hgrow.size
    have h2 : (w4.setCell ⟨g, 7, none⟩ lv').heap.size = w4.heap.size := by simp
    omega
  · intro k hk hkg hkl
    rw [heap_setCell_other w4 _ k _ hkg, hgrow.block k (by omega) (Ne.symm hkl)]
    have e2 : (w1.alloc o).drew.heap[k]? = w1.heap[k]? := heap_alloc_old w1 o (by omega)
    rw [e2, hoff1 k hkg]

set_option maxRecDepth 100000 in
set_option maxHeartbeats 2000000 in
theorem keep_any {base : Nat} {w : World} {g : Nat} {lv : Value} {ao : Option Addr} {L c : Nat} {ps : List (Value × Value)} (h : Kept base w g lv ps) (hb : base ≤ w.heap.size) (hn : ps.length < 1000) :
    Calls Tryz.prog 87 #[.pointer (some ⟨g, 0, none⟩), .slice ao L c] w fun e w' => e = .returned (.tuple #[]) ∧ ∃ lv', Kept base w' g lv' (ps ++ [(.slice ao L c, .slice none 0 0)]) ∧ Off g lv w w' := by
  have c0 := h.book.cell 0
  have c1 := h.book.cell 7
  simp only [bookCells] at c0 c1
  have f0 : w.frozen? ⟨g, 0, none⟩ = false := frozen_of_row w g 0 _ _ h.book
  go_enter Tryz.func87, Tryz.ntmps87
  go_wp2
  have hk1 := h.book.set0 (ps.length + 1)
  have hgl := h.book.lt
  have e1 : ((ps.length + 1 : Nat) : Int) = (ps.length : Int) + 1 := by omega
  have hne : lv.ownBlock ≠ some g := book_own_ne h.book h.own
  have hown1 : (w.setCell ⟨g, 0, none⟩ (.int .i64 ((ps.length : Int) + 1))).ownsRow base 131 3 lv ps.length (ents ps 0) := owns_set h.own _ _ _ hne
  have hoff1 : ∀ k, k ≠ g → (w.setCell ⟨g, 0, none⟩ (.int .i64 ((ps.length : Int) + 1))).heap[k]? = w.heap[k]? := fun k hk => heap_setCell_other w _ k _ hk
  have hos : (w.setCell ⟨g, 0, none⟩ (.int .i64 ((ps.length : Int) + 1))).os = w.os ∧ (w.setCell ⟨g, 0, none⟩ (.int .i64 ((ps.length : Int) + 1))).tape = w.tape ∧ (w.setCell ⟨g, 0, none⟩ (.int .i64 ((ps.length : Int) + 1))).output = w.output := by
    have hz := (Below.refl 0 w).setCell (p := ⟨g, 0, none⟩) (Nat.zero_le _) (.int .i64 ((ps.length : Int) + 1))
    exact ⟨hz.os, hz.tape, hz.output⟩
  rw [e1] at hk1
  have hs1 : (w.setCell ⟨g, 0, none⟩ (.int .i64 ((ps.length : Int) + 1))).heap.size = w.heap.size := by simp
  generalize hw1 : w.setCell ⟨g, 0, none⟩ (.int .i64 ((ps.length : Int) + 1)) = w1 at *
  have hbs : ∀ o, base ≤ ((w1.alloc o).drew).heap.size := fun o => by
    have : (w1.alloc o).drew.heap.size = w1.heap.size + 1 := by simp
    omega
  obtain ⟨d0, d1, d2⟩ := hk1.told
  have a0 : ∀ o, (w1.alloc o).cell? ⟨g, 0, none⟩ = some (.int .i64 ((ps.length : Int) + 1)) := fun o => (hk1.alloc o).told.1
  have a1 : ∀ o, (w1.alloc o).cell? ⟨g, 7, none⟩ = some lv := fun o => (hk1.alloc o).told.2.1
  have Hs1 := hide hs1
  clear hs1
  go_region_law ((((refine step_append_ent rfl (.tmp 15) (.tmp 22) 35 rfl base 131 _ 56 Tryz.underlying35 Tryz.infoHeld (by rfl) lv ps.length (ents ps 0) (by rfl) (hown1.alloc _) w1.heap.size 1 #[.slice ao L c, .slice none 0 0, .int .i64 ((ps.length : Int) + 1)] 131 (by rfl) (by rfl) (by exact heap_alloc_new _ _) (by intro u hu; simp at hu; rcases hu with rfl | rfl | rfl <;> rfl) (by unfold maxLen; omega) (by omega) (hbs _) ?_; intro g' cap' w4 hown' hgrow; have q := ((hk1.alloc _).grown hgrow hne).told; have q0 := q.1; have q1 := q.2.1; have q2 := q.2.2; clear q))))
  all_goals
    go_end0
    have hf := keep_fin h Hs1.out hoff1 hos ((hk1.alloc _).grown hgrow hne) hown' hgrow
    exact ⟨rfl, _, hf.1, hf.2⟩

set_option maxHeartbeats 1000000 in
theorem plain_any {base : Nat} {w : World} {g : Nat} {lv : Value} {ao : Option Addr} {L c : Nat} {ps : List (Value × Value)} (h : Kept base w g lv ps) (hb : base ≤ w.heap.size) (hn : ps.length < 1000) :
    Calls Tryz.prog 22 #[.pointer (some ⟨g, 0, none⟩), .slice ao L c] w fun e w' => e = .returned (.tuple #[]) ∧ ∃ lv', Kept base w' g lv' (ps ++ [(.slice ao L c, .slice none 0 0)]) ∧ Off g lv w w' := by
  go_enter Tryz.func22, Tryz.ntmps22
  go_wp2_with fail
  refine (keep_any h hb hn).mono ?_
  rintro e w1 ⟨rfl, lv', h1, h2⟩
  go_wp2
  go_end0
  exact ⟨rfl, lv', h1, h2⟩

end Go.Proofs.YtddamkdkaijfjaaGreatDoor
