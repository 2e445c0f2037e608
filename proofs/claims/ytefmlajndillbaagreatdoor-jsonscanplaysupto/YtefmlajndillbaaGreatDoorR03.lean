/- DnP, DnR -/
import Derived.Test.YtefmlajndillbaaGreatDoorR01
import Derived.Test.YtefmlajndillbaaGreatDoorR02
namespace Go.Proofs.YtefmlajndillbaaGreatDoor
open Go.RowKit
set_option linter.unusedVariables false

/-- the blocks of a place -/
def Bk (p r : Nat) (ov tv : Value) (k : Nat) : Prop := k = p ∨ k = r ∨ ov.ownBlock = some k ∨ tv.ownBlock = some k
theorem Pl.bk_lt {w : World} {a : Nat → Addr} {B bp of p r : Nat} {ov tv : Value} {s : Sc} (h : Pl w a B bp of p r ov tv s) {k : Nat} (hk : Bk p r ov tv k) : k < w.heap.size := by
  rcases hk with rfl | rfl | e | e
  · exact h.ts.sc.lt
  · exact h.rs.lt
  · exact (h.ts.sc.ownLt k e).2
  · exact (h.rs.ownLt k e).2
theorem Pl.bk_bp {w : World} {a : Nat → Addr} {B bp of p r : Nat} {ov tv : Value} {s : Sc} (h : Pl w a B bp of p r ov tv s) : ¬ Bk p r ov tv bp := by
  rintro (e | e | e | e)
  · exact h.ne.2.1 e
  · exact h.ne.2.2 e
  · exact (h.ap bp e).2.1 rfl
  · exact (h.ar bp e).1 rfl
theorem Fb.keep {p r : Nat} {ov ov' tv tv' : Value} {w w' : World} (f : Fb p r ov ov' tv tv' w w') {k : Nat} (hk : k < w.heap.size) (h : ¬ Bk p r ov tv k) : w'.heap[k]? = w.heap[k]? :=
  f.block k hk (fun e => h (Or.inl e)) (fun e => h (Or.inr (Or.inl e))) (fun e => h (Or.inr (Or.inr (Or.inl e)))) (fun e => h (Or.inr (Or.inr (Or.inr e))))
theorem Fb.new {p r : Nat} {ov ov' tv tv' : Value} {w w' : World} (f : Fb p r ov ov' tv tv' w w') {k : Nat} (h : Bk p r ov' tv' k) : Bk p r ov tv k ∨ w.heap.size ≤ k := by
  rcases h with e | e | e | e
  · exact Or.inl (Or.inl e)
  · exact Or.inl (Or.inr (Or.inl e))
  · rcases f.o1 with q | q
    · exact Or.inl (Or.inr (Or.inr (Or.inl (q ▸ e))))
    · exact Or.inr (q k e)
  · rcases f.o2 with q | q
    · exact Or.inl (Or.inr (Or.inr (Or.inr (q ▸ e))))
    · exact Or.inr (q k e)
/-- the other place stays -/
theorem Pl.other {w w' : World} {a : Nat → Addr} {B bp of p r : Nat} {ov tv : Value} {s : Sc} (h : Pl w a B bp of p r ov tv s) (hs : w.heap.size ≤ w'.heap.size) (hb : ∀ k, Bk p r ov tv k ∨ k = bp → w'.heap[k]? = w.heap[k]?) : Pl w' a B bp of p r ov tv s :=
  ⟨h.ts.blocks (hb p (Or.inl (Or.inl rfl))) (fun g e => hb g (Or.inl (Or.inr (Or.inr (Or.inl e))))), h.rs.blocks (hb r (Or.inl (Or.inr (Or.inl rfl)))) (fun g e => hb g (Or.inl (Or.inr (Or.inr (Or.inr e))))), by rw [cell_block (hb bp (Or.inr rfl))]; exact h.c0, by rw [cell_block (hb bp (Or.inr rfl))]; exact h.c1, Nat.lt_of_lt_of_le h.lt hs, h.ne, h.ap, h.ar⟩
/-- both places; the one at offset o is spoken of, the other lies at o' -/
def Two (w : World) (a : Nat → Addr) (B L o o' : Nat) (s s' : Sc) : Prop :=
  ∃ p r ov tv p' r' ov' tv', Pl w a B L o p r ov tv s ∧ Pl w a B L o' p' r' ov' tv' s' ∧ (∀ k, Bk p r ov tv k → ¬ Bk p' r' ov' tv' k) ∧ w.heap[L]? = some (.cells (if o = 0 then #[.pointer (some ⟨p, 0, none⟩), .pointer (some ⟨r, 0, none⟩), .pointer (some ⟨p', 0, none⟩), .pointer (some ⟨r', 0, none⟩)] else #[.pointer (some ⟨p', 0, none⟩), .pointer (some ⟨r', 0, none⟩), .pointer (some ⟨p, 0, none⟩), .pointer (some ⟨r, 0, none⟩)]) 29 (0, 0)) ∧ B ≤ L
theorem Two.swap0 {w : World} {a : Nat → Addr} {B L : Nat} {s s' : Sc} (h : Two w a B L 0 2 s s') : Two w a B L 2 0 s' s := by
  obtain ⟨p, r, ov, tv, p', r', ov', tv', h1, h2, h3, h4, h5⟩ := h
  exact ⟨p', r', ov', tv', p, r, ov, tv, h2, h1, fun k e e' => h3 k e' e, by rw [if_pos rfl] at h4; rw [if_neg (by omega)]; exact h4, h5⟩
theorem Two.swap2 {w : World} {a : Nat → Addr} {B L : Nat} {s s' : Sc} (h : Two w a B L 2 0 s s') : Two w a B L 0 2 s' s := by
  obtain ⟨p, r, ov, tv, p', r', ov', tv', h1, h2, h3, h4, h5⟩ := h
  exact ⟨p', r', ov', tv', p, r, ov, tv, h2, h1, fun k e e' => h3 k e' e, by rw [if_neg (by omega)] at h4; rw [if_pos rfl]; exact h4, h5⟩
/-- behind a call on the one -/
theorem two_done {w w' : World} {a : Nat → Addr} {B L o o' p r p' r' : Nat} {ov tv ov2 tv2 ov' tv' : Value} {s s2 s' : Sc} (h1 : Pl w a B L o p r ov tv s) (h2 : Pl w a B L o' p' r' ov' tv' s') (h3 : ∀ k, Bk p r ov tv k → ¬ Bk p' r' ov' tv' k) (cs : Array Value) (h4 : w.heap[L]? = some (.cells cs 29 (0, 0)))
    (g1 : Pl w' a B L o p r ov2 tv2 s2) (f : Fb p r ov ov2 tv tv2 w w') : Pl w' a B L o' p' r' ov' tv' s' ∧ (∀ k, Bk p r ov2 tv2 k → ¬ Bk p' r' ov' tv' k) ∧ w'.heap[L]? = some (.cells cs 29 (0, 0)) ∧ Below B w w' := by
  refine ⟨h2.other f.size (fun k hk => ?_), fun k e e' => ?_, ?_, h1.toBelow f⟩
  · rcases hk with hk | rfl
    · exact f.keep (h2.bk_lt hk) (fun e => h3 k e hk)
    · exact f.keep h1.lt h1.bk_bp
  · rcases f.new e with q | q
    · exact h3 k q e'
    · have := h2.bk_lt e'; omega
  · rw [f.keep h1.lt h1.bk_bp]; exact h4
theorem does_any {w : World} {a : Nat → Addr} {B bp of p r : Nat} {ov tv : Value} {s : Sc} {kd on : Int} {es : List Int} {ch : ByteArray} (h : Pl w a B bp of p r ov tv s) (hS : SH B w a) (hb : uByt es) (hch : ch = strOfNums es) (hsz : s.size + es.length + 4 ≤ 140737488355328) :
    Calls Tryz.prog 8 #[.pointer (some ⟨bp, of, none⟩), .agg #[.int .i64 kd, .int .i64 on, .string ch]] w (Done w a B bp of p r ov tv (if kd = 1 then writeB es s else s)) := by
  by_cases k1 : kd = 1
  · subst k1
    exact does_w h hS hb hch hsz
  rw [if_neg k1]
  by_cases k2 : kd = 2
  · subst k2; exact does_c h hS
  by_cases k3 : kd = 3
  · subst k3; exact does_l h hS
  by_cases k4 : kd = 4
  · subst k4; exact does_d h hS
  · exact does_o h hS k1 k2 k3 k4
/-- a call on one of two places -/
theorem two_does {w : World} {a : Nat → Addr} {B L o o' : Nat} {s s' : Sc} {kd on : Int} {es : List Int} {ch : ByteArray} (h : Two w a B L o o' s s') (hS : SH B w a) (hb : uByt es) (hch : ch = strOfNums es) (hsz : s.size + es.length + 4 ≤ 140737488355328) :
    Calls Tryz.prog 8 #[.pointer (some ⟨L, o, none⟩), .agg #[.int .i64 kd, .int .i64 on, .string ch]] w fun e w' => e = .returned (.bool true) ∧ Two w' a B L o o' (if kd = 1 then writeB es s else s) s' ∧ Below B w w' := by
  obtain ⟨p, r, ov, tv, p', r', ov', tv', h1, h2, h3, h4, h5⟩ := h
  refine (does_any h1 hS hb hch hsz).mono ?_
  rintro e w' ⟨rfl, ov2, tv2, g1, g2⟩
  obtain ⟨k1, k2, k3, k4⟩ := two_done h1 h2 h3 _ h4 g1 g2
  exact ⟨rfl, ⟨p, r, ov2, tv2, p', r', ov', tv', g1, k1, k2, k3, h5⟩, k4⟩
theorem two_all {w : World} {a : Nat → Addr} {B L o o' : Nat} {s s' : Sc} (h : Two w a B L o o' s s') (hS : SH B w a) (hsz : s.size + 4 ≤ 140737488355328) :
    Calls Tryz.prog 9 #[.pointer (some ⟨L, o, none⟩)] w fun e w' => e = .returned (.bool true) ∧ Two w' a B L o o' s s' ∧ Below B w w' := by
  obtain ⟨p, r, ov, tv, p', r', ov', tv', h1, h2, h3, h4, h5⟩ := h
  refine (pall h1 hS hsz).mono ?_
  rintro e w' ⟨rfl, ov2, tv2, g1, g2⟩
  obtain ⟨k1, k2, k3, k4⟩ := two_done h1 h2 h3 _ h4 g1 g2
  exact ⟨rfl, ⟨p, r, ov2, tv2, p', r', ov', tv', g1, k1, k2, k3, h5⟩, k4⟩
/-- the cells of the two places -/
theorem Two.cells {w : World} {a : Nat → Addr} {B L : Nat} {s s' : Sc} (h : Two w a B L 0 2 s s') : ∃ p r p' r', w.heap[L]? = some (.cells #[.pointer (some ⟨p, 0, none⟩), .pointer (some ⟨r, 0, none⟩), .pointer (some ⟨p', 0, none⟩), .pointer (some ⟨r', 0, none⟩)] 29 (0, 0)) := by
  obtain ⟨p, r, ov, tv, p', r', ov', tv', h1, h2, h3, h4, h5⟩ := h
  exact ⟨p, r, p', r', by rw [if_pos rfl] at h4; exact h4⟩
/-- a place gets a new scanner -/
theorem two_new0 {w w1 w2 : World} {a : Nat → Addr} {B L P R : Nat} {s s' : Sc} (h : Two w a B L 0 2 s s') (hP : w.heap.size = P) (t1 : ScP w1 a P P (.slice none 0 0) sc0) (b1 : Below P w w1) (hR : w1.heap.size = R) (t2 : DS w2 B R (.slice none 0 0) sc0) (b2 : Below R w1 w2) :
    Two ((w2.setCell ⟨L, 0, none⟩ (.pointer (some ⟨P, 0, none⟩))).setCell ⟨L, 1, none⟩ (.pointer (some ⟨R, 0, none⟩))) a B L 0 2 sc0 s' ∧ Below B w ((w2.setCell ⟨L, 0, none⟩ (.pointer (some ⟨P, 0, none⟩))).setCell ⟨L, 1, none⟩ (.pointer (some ⟨R, 0, none⟩))) := by
  obtain ⟨p, r, ov, tv, p', r', ov', tv', h1, h2, h3, h4, h5⟩ := h
  have hBw : B ≤ P := by have := h1.blt; omega
  have lP := t1.sc.lt
  have lR := t2.lt
  have lL : L < P := by have := h1.lt; omega
  have t1' : ScP w1 a B P (.slice none 0 0) sc0 := ⟨⟨t1.sc.blk, World.ownsRow_nil _ _ _ _, hBw⟩, t1.good⟩
  have b12 : Below P w w2 := b1.trans (b2.mono (by omega))
  have hk : ∀ k, k ≠ L → ((w2.setCell ⟨L, 0, none⟩ (.pointer (some ⟨P, 0, none⟩))).setCell ⟨L, 1, none⟩ (.pointer (some ⟨R, 0, none⟩))).heap[k]? = w2.heap[k]? := fun k e => by
    rw [Below.heap_setCell _ _ _ _ (show k ≠ L from e), Below.heap_setCell _ _ _ _ (show k ≠ L from e)]
  have hL2 : w2.heap[L]? = w.heap[L]? := b12.block L lL
  have hsz : ((w2.setCell ⟨L, 0, none⟩ (.pointer (some ⟨P, 0, none⟩))).setCell ⟨L, 1, none⟩ (.pointer (some ⟨R, 0, none⟩))).heap.size = w2.heap.size := by simp [World.setCell]
  have hN : ((w2.setCell ⟨L, 0, none⟩ (.pointer (some ⟨P, 0, none⟩))).setCell ⟨L, 1, none⟩ (.pointer (some ⟨R, 0, none⟩))).heap[L]? = some (.cells #[.pointer (some ⟨P, 0, none⟩), .pointer (some ⟨R, 0, none⟩), .pointer (some ⟨p', 0, none⟩), .pointer (some ⟨r', 0, none⟩)] 29 (0, 0)) := by
    have e0 := h4
    rw [if_pos rfl] at e0
    have e1 := heap_setCell_same w2 L 0 _ _ (.pointer (some ⟨P, 0, none⟩)) (hL2.trans e0)
    have e2 := heap_setCell_same _ L 1 _ _ (.pointer (some ⟨R, 0, none⟩)) e1
    exact e2
  have hbel : Below B w ((w2.setCell ⟨L, 0, none⟩ (.pointer (some ⟨P, 0, none⟩))).setCell ⟨L, 1, none⟩ (.pointer (some ⟨R, 0, none⟩))) := ⟨b12.os, b12.tape, b12.output, by rw [hsz]; exact b12.size, fun k q => by rw [hk k (by omega)]; exact b12.block k (by omega)⟩
  generalize ((w2.setCell ⟨L, 0, none⟩ (.pointer (some ⟨P, 0, none⟩))).setCell ⟨L, 1, none⟩ (.pointer (some ⟨R, 0, none⟩))) = W at hk hsz hN hbel ⊢
  have h2' := h2.below (b12.mono (by omega) |> fun q => (show Below w.heap.size w w2 from hP ▸ q))
  have nL : ∀ k, Bk p' r' ov' tv' k → k ≠ L := fun k e q => h2.bk_bp (q ▸ e)
  refine ⟨⟨P, R, .slice none 0 0, .slice none 0 0, p', r', ov', tv', ?_, ?_, ?_, by rw [if_pos rfl]; exact hN, h5⟩, ?_⟩
  · exact ⟨(t1'.below (hR ▸ b2 |> fun q => (show Below w1.heap.size w1 w2 from by rw [hR]; exact b2))).blocks (hk P (by omega)) (fun g e => by simp [Value.ownBlock] at e), t2.blocks (hk R (by omega)) (fun g e => by simp [Value.ownBlock] at e), Lib.cell_of_heap hN 0, Lib.cell_of_heap hN 1, by omega, ⟨by omega, by omega, by omega⟩, fun g e => by simp [Value.ownBlock] at e, fun g e => by simp [Value.ownBlock] at e⟩
  · exact ⟨h2'.ts.blocks (hk p' (nL p' (Or.inl rfl))) (fun g e => hk g (nL g (Or.inr (Or.inr (Or.inl e))))), h2'.rs.blocks (hk r' (nL r' (Or.inr (Or.inl rfl)))) (fun g e => hk g (nL g (Or.inr (Or.inr (Or.inr e))))), Lib.cell_of_heap hN 2, Lib.cell_of_heap hN 3, by omega, h2.ne, h2.ap, h2.ar⟩
  · intro k e e'
    have := h2.bk_lt e'
    rcases e with e | e | e | e
    · omega
    · omega
    · simp [Value.ownBlock] at e
    · simp [Value.ownBlock] at e
  · exact hbel
theorem two_new2 {w w1 w2 : World} {a : Nat → Addr} {B L P R : Nat} {s s' : Sc} (h : Two w a B L 2 0 s s') (hP : w.heap.size = P) (t1 : ScP w1 a P P (.slice none 0 0) sc0) (b1 : Below P w w1) (hR : w1.heap.size = R) (t2 : DS w2 B R (.slice none 0 0) sc0) (b2 : Below R w1 w2) :
    Two ((w2.setCell ⟨L, 2, none⟩ (.pointer (some ⟨P, 0, none⟩))).setCell ⟨L, 3, none⟩ (.pointer (some ⟨R, 0, none⟩))) a B L 2 0 sc0 s' ∧ Below B w ((w2.setCell ⟨L, 2, none⟩ (.pointer (some ⟨P, 0, none⟩))).setCell ⟨L, 3, none⟩ (.pointer (some ⟨R, 0, none⟩))) := by
  obtain ⟨p, r, ov, tv, p', r', ov', tv', h1, h2, h3, h4, h5⟩ := h
  have hBw : B ≤ P := by have := h1.blt; omega
  have lP := t1.sc.lt
  have lR := t2.lt
  have lL : L < P := by have := h1.lt; omega
  have t1' : ScP w1 a B P (.slice none 0 0) sc0 := ⟨⟨t1.sc.blk, World.ownsRow_nil _ _ _ _, hBw⟩, t1.good⟩
  have b12 : Below P w w2 := b1.trans (b2.mono (by omega))
  have hk : ∀ k, k ≠ L → ((w2.setCell ⟨L, 2, none⟩ (.pointer (some ⟨P, 0, none⟩))).setCell ⟨L, 3, none⟩ (.pointer (some ⟨R, 0, none⟩))).heap[k]? = w2.heap[k]? := fun k e => by
    rw [Below.heap_setCell _ _ _ _ (show k ≠ L from e), Below.heap_setCell _ _ _ _ (show k ≠ L from e)]
  have hL2 : w2.heap[L]? = w.heap[L]? := b12.block L lL
  have hsz : ((w2.setCell ⟨L, 2, none⟩ (.pointer (some ⟨P, 0, none⟩))).setCell ⟨L, 3, none⟩ (.pointer (some ⟨R, 0, none⟩))).heap.size = w2.heap.size := by simp [World.setCell]
  have hN : ((w2.setCell ⟨L, 2, none⟩ (.pointer (some ⟨P, 0, none⟩))).setCell ⟨L, 3, none⟩ (.pointer (some ⟨R, 0, none⟩))).heap[L]? = some (.cells #[.pointer (some ⟨p', 0, none⟩), .pointer (some ⟨r', 0, none⟩), .pointer (some ⟨P, 0, none⟩), .pointer (some ⟨R, 0, none⟩)] 29 (0, 0)) := by
    have e0 := h4
    rw [if_neg (by omega)] at e0
    have e1 := heap_setCell_same w2 L 2 _ _ (.pointer (some ⟨P, 0, none⟩)) (hL2.trans e0)
    have e2 := heap_setCell_same _ L 3 _ _ (.pointer (some ⟨R, 0, none⟩)) e1
    exact e2
  have hbel : Below B w ((w2.setCell ⟨L, 2, none⟩ (.pointer (some ⟨P, 0, none⟩))).setCell ⟨L, 3, none⟩ (.pointer (some ⟨R, 0, none⟩))) := ⟨b12.os, b12.tape, b12.output, by rw [hsz]; exact b12.size, fun k q => by rw [hk k (by omega)]; exact b12.block k (by omega)⟩
  generalize ((w2.setCell ⟨L, 2, none⟩ (.pointer (some ⟨P, 0, none⟩))).setCell ⟨L, 3, none⟩ (.pointer (some ⟨R, 0, none⟩))) = W at hk hsz hN hbel ⊢
  have h2' := h2.below (b12.mono (by omega) |> fun q => (show Below w.heap.size w w2 from hP ▸ q))
  have nL : ∀ k, Bk p' r' ov' tv' k → k ≠ L := fun k e q => h2.bk_bp (q ▸ e)
  refine ⟨⟨P, R, .slice none 0 0, .slice none 0 0, p', r', ov', tv', ?_, ?_, ?_, by rw [if_neg (by omega)]; exact hN, h5⟩, ?_⟩
  · exact ⟨(t1'.below (hR ▸ b2 |> fun q => (show Below w1.heap.size w1 w2 from by rw [hR]; exact b2))).blocks (hk P (by omega)) (fun g e => by simp [Value.ownBlock] at e), t2.blocks (hk R (by omega)) (fun g e => by simp [Value.ownBlock] at e), Lib.cell_of_heap hN 2, Lib.cell_of_heap hN 3, by omega, ⟨by omega, by omega, by omega⟩, fun g e => by simp [Value.ownBlock] at e, fun g e => by simp [Value.ownBlock] at e⟩
  · exact ⟨h2'.ts.blocks (hk p' (nL p' (Or.inl rfl))) (fun g e => hk g (nL g (Or.inr (Or.inr (Or.inl e))))), h2'.rs.blocks (hk r' (nL r' (Or.inr (Or.inl rfl)))) (fun g e => hk g (nL g (Or.inr (Or.inr (Or.inr e))))), Lib.cell_of_heap hN 0, Lib.cell_of_heap hN 1, by omega, h2.ne, h2.ap, h2.ar⟩
  · intro k e e'
    have := h2.bk_lt e'
    rcases e with e | e | e | e
    · omega
    · omega
    · simp [Value.ownBlock] at e
    · simp [Value.ownBlock] at e
  · exact hbel

end Go.Proofs.YtefmlajndillbaaGreatDoor

namespace Go.Proofs.YtefmlajndillbaaGreatDoor
open Go.RowKit
set_option linter.unusedVariables false

theorem ptr_eq0 (w : World) (q : Addr) : (binOp .eql 23 (.pointer (some q)) (.pointer none)).run Tryz.prog w = .ok (.bool false) w := by
  have h : ∀ d : Nat, (Op.equalIn (d + 1) 23 (.pointer (some q)) (.pointer none)).run Tryz.prog w = .ok false w := fun d => by
    simp [Op.equalIn, run_underlying Tryz.underlying23]
  simp only [binOp]
  simp [Op.equal, Op.maxDepth, h 9999]
/-- the first two places -/
theorem two_first {w w1 w2 w3 w4 : World} {a : Nat → Addr} {B R P Q : Nat} (hB : w.heap.size = B) (t1 : ScP w1 a B B (.slice none 0 0) sc0) (b1 : Below B w w1) (hR : w1.heap.size = R) (t2 : DS w2 B R (.slice none 0 0) sc0) (b2 : Below R w1 w2)
    (hP : w2.heap.size = P) (t3 : ScP w3 a P P (.slice none 0 0) sc0) (b3 : Below P w2 w3) (hQ : w3.heap.size = Q) (t4 : DS w4 B Q (.slice none 0 0) sc0) (b4 : Below Q w3 w4) :
    Two (w4.alloc (.cells #[.pointer (some ⟨B, 0, none⟩), .pointer (some ⟨R, 0, none⟩), .pointer (some ⟨P, 0, none⟩), .pointer (some ⟨Q, 0, none⟩)] 29)) a B w4.heap.size 0 2 sc0 sc0 ∧ Below B w (w4.alloc (.cells #[.pointer (some ⟨B, 0, none⟩), .pointer (some ⟨R, 0, none⟩), .pointer (some ⟨P, 0, none⟩), .pointer (some ⟨Q, 0, none⟩)] 29)) := by
  have l1 := t1.sc.lt
  have l2 := t2.lt
  have l3 := t3.sc.lt
  have l4 := t4.lt
  have hN := heap_alloc_new w4 (.cells #[.pointer (some ⟨B, 0, none⟩), .pointer (some ⟨R, 0, none⟩), .pointer (some ⟨P, 0, none⟩), .pointer (some ⟨Q, 0, none⟩)] 29)
  have bl : Below w4.heap.size w4 (w4.alloc (.cells #[.pointer (some ⟨B, 0, none⟩), .pointer (some ⟨R, 0, none⟩), .pointer (some ⟨P, 0, none⟩), .pointer (some ⟨Q, 0, none⟩)] 29)) := (Below.refl _ _).alloc (Nat.le_refl _) _
  have t3' : ScP w3 a B P (.slice none 0 0) sc0 := ⟨⟨t3.sc.blk, World.ownsRow_nil _ _ _ _, by omega⟩, t3.good⟩
  have c12 : Below w1.heap.size w1 w2 := by rw [hR]; exact b2
  have c23 : Below w2.heap.size w2 w3 := by rw [hP]; exact b3
  have c34 : Below w3.heap.size w3 w4 := by rw [hQ]; exact b4
  have u1 := (((t1.below c12).below c23).below c34).below bl
  have u2 := ((t2.below c23).below c34).below bl
  have u3 := (t3'.below c34).below bl
  have u4 := t4.below bl
  have nv : ∀ g : Nat, (Value.slice none 0 0).ownBlock ≠ some g := fun g e => by simp [Value.ownBlock] at e
  refine ⟨⟨B, R, _, _, P, Q, _, _, ⟨u1, u2, Lib.cell_of_heap hN 0, Lib.cell_of_heap hN 1, by simp, ⟨by omega, by omega, by omega⟩, fun g e => absurd e (nv g), fun g e => absurd e (nv g)⟩, ⟨u3, u4, Lib.cell_of_heap hN 2, Lib.cell_of_heap hN 3, by simp, ⟨by omega, by omega, by omega⟩, fun g e => absurd e (nv g), fun g e => absurd e (nv g)⟩, ?_, by rw [if_pos rfl]; exact hN, by omega⟩, ?_⟩
  · intro k e e'
    rcases e with e | e | e | e
    · rcases e' with q | q | q | q
      · omega
      · omega
      · exact nv k q
      · exact nv k q
    · rcases e' with q | q | q | q
      · omega
      · omega
      · exact nv k q
      · exact nv k q
    · exact nv k e
    · exact nv k e
  · exact (((b1.trans (b2.mono (by omega))).trans (b3.mono (by omega))).trans (b4.mono (by omega))).trans (bl.mono (by omega))
theorem Two.below {w w' : World} {a : Nat → Addr} {B L o o' : Nat} {s s' : Sc} (h : Two w a B L o o' s s') (hb : Below w.heap.size w w') : Two w' a B L o o' s s' := by
  obtain ⟨p, r, ov, tv, p', r', ov', tv', h1, h2, h3, h4, h5⟩ := h
  exact ⟨p, r, ov, tv, p', r', ov', tv', h1.below hb, h2.below hb, h3, by rw [hb.block _ h1.lt]; exact h4, h5⟩
set_option maxRecDepth 100000 in
set_option maxHeartbeats 8000000 in
theorem jplays {w : World} {a : Nat → Addr} {v : Value} {l : List Op3} (hS : Snt w a) (hH : Hnd w) (hv : OpRd w v l) (ht : totO l ≤ 1048576) :
    Calls Tryz.prog 3 #[v] w fun e w' => e = .returned (.bool true) ∧ Below w.heap.size w w' := by
  have C0 := hide (jNew (w := w) (a := a))
  have HSH := hide (SH.of hS hH)
  obtain ⟨ao, cap, rfl, hcap, hmx, hcell⟩ := hv
  obtain ⟨n, hn⟩ : ∃ n, l.length = n := ⟨_, rfl⟩
  have hn2 : n ≤ 1048576 := by have := totO_len l; omega
  have HN := hide hn
  have HT := hide ht
  have HCL := hide hcell
  rw [hn] at hcap ⊢
  obtain ⟨B, hB⟩ : ∃ B, w.heap.size = B := ⟨_, rfl⟩
  rw [hB] at C0 HSH ⊢
  have HBB := hide hB
  clear hS hH ht hcell hn hmx hcap
  go_enter Tryz.func3, Tryz.ntmps3
  go_wp2_with fail
  refine C0.out.mono ?_
  rintro e w1 ⟨rfl, g1, g2⟩
  have hs1 : B ≤ w1.heap.size := by have := g1.sc.lt; omega
  have C1 := hide (dNewB (w := w1) (B := B) hs1)
  obtain ⟨R, hR⟩ : ∃ R, w1.heap.size = R := ⟨_, rfl⟩
  rw [hR] at C1
  have G1 := hide (show _ ∧ _ ∧ _ from ⟨g1, g2, hR⟩)
  clear g1 g2 C0
  go_wp2_with fail
  refine C1.out.mono ?_
  rintro e w2 ⟨rfl, g3, g4⟩
  have hs2 : B ≤ w2.heap.size := by have := g3.lt; omega
  have C2 := hide (jNew (w := w2) (a := a))
  obtain ⟨P, hP⟩ : ∃ P, w2.heap.size = P := ⟨_, rfl⟩
  rw [hP] at C2
  have G2 := hide (show _ ∧ _ ∧ _ from ⟨g3, g4, hP⟩)
  clear g3 g4 C1 hs1 hR
  go_wp2_with fail
  refine C2.out.mono ?_
  rintro e w3 ⟨rfl, g5, g6⟩
  have hs3 : B ≤ w3.heap.size := by have := g5.sc.lt; omega
  have C3 := hide (dNewB (w := w3) (B := B) hs3)
  obtain ⟨Q, hQ⟩ : ∃ Q, w3.heap.size = Q := ⟨_, rfl⟩
  rw [hQ] at C3
  have G3 := hide (show _ ∧ _ ∧ _ from ⟨g5, g6, hQ⟩)
  clear g5 g6 C2 hs2 hP
  go_wp2_with fail
  refine C3.out.mono ?_
  rintro e w4 ⟨rfl, g7, g8⟩
  have TW := two_first HBB.out G1.out.1 G1.out.2.1 G1.out.2.2 G2.out.1 G2.out.2.1 G2.out.2.2 G3.out.1 G3.out.2.1 G3.out.2.2 g7 g8
  obtain ⟨LP, hLP⟩ : ∃ LP, w4.heap.size = LP := ⟨_, rfl⟩
  rw [hLP] at TW
  have HTW := hide TW
  clear g7 g8 C3 hs3 hQ TW
  go_wp2
  obtain ⟨W0, hW0⟩ : ∃ W0, w4.alloc (.cells #[.pointer (some ⟨B, 0, none⟩), .pointer (some ⟨R, 0, none⟩), .pointer (some ⟨P, 0, none⟩), .pointer (some ⟨Q, 0, none⟩)] 29) = W0 := ⟨_, rfl⟩
  try rw [hW0]
  rw [hW0] at HTW
  clear hW0 hLP
  have pe := fun (u : World) (q : Addr) => ptr_eq0 u q
  have pn := fun (u : World) (q : Addr) => ptr_nil u q
  go_loopg [4, 5] n (fun c i x5 wr => ∃ (j : Nat) (s s' : Sc), j ≤ n ∧ i = .int .i64 j ∧ c = n - j ∧ Hid (Two wr a B LP 0 2 s s') ∧ Hid (s.size ≤ totO (l.take j) ∧ s'.size ≤ totO (l.take j)) ∧ Hid (Below B w wr))
  case atStart => exact ⟨0, sc0, sc0, by omega, rfl, by omega, hide HTW.out.1, hide ⟨Nat.zero_le _, Nat.zero_le _⟩, hide HTW.out.2⟩
  case round =>
    obtain ⟨j, s, s', hj, rfl, hc, HTwo, HSz, HBe⟩ := hrel
    by_cases hjn : j < n
    · have hjl : j < l.length := by have := HN.out; omega
      obtain ⟨g, o, hao, hg, hin⟩ := HCL.out (by omega)
      subst hao
      obtain ⟨e0, e1, e2, e3⟩ := hin j hjl
      have htk := totO_take hjl
      have hle := totO_le l (j + 1)
      have htt := HT.out
      obtain ⟨q, hq⟩ : ∃ q : Op3, l[j] = q := ⟨_, rfl⟩
      rw [hq] at e0 e1 e2 e3 htk
      obtain ⟨kd, on, es⟩ := q
      simp only at e0 e1 e2 e3 htk
      have hgB : g < B := by omega
      have hgb : wr.heap[g]? = w.heap[g]? := HBe.out.block g hgB
      have d0 : wr.cell? ⟨g, o + j * 3, none⟩ = some (.int .i64 kd) := (cell_block hgb _).trans e0
      have d1 : wr.cell? ⟨g, o + j * 3 + 1, none⟩ = some (.int .i64 on) := (cell_block hgb _).trans e1
      obtain ⟨ch, hch⟩ : ∃ ch, strOfNums es = ch := ⟨_, rfl⟩
      rw [hch] at e2
      have d2 : wr.cell? ⟨g, o + j * 3 + 2, none⟩ = some (.string ch) := (cell_block hgb _).trans e2
      have HES := hide (show _ ∧ _ from ⟨e3, hch.symm⟩)
      have hsz := HSz.out
      have HSZ := hide (show _ ∧ _ ∧ _ from ⟨hsz, htk, Nat.le_trans hle htt⟩)
      have HGB := hide (And.intro hgB hgb)
      have hs4 : s.size + es.length + 4 ≤ 140737488355328 ∧ s'.size + es.length + 4 ≤ 140737488355328 := by omega
      have hz4 : sc0.size + es.length + 4 ≤ 140737488355328 := by have : sc0.size = 0 := rfl; omega
      have HS4 := hide (And.intro hs4 hz4)
      obtain ⟨p0, r0, p2', r2', hcells⟩ := HTwo.out.cells
      have a0 : wr.cell? ⟨LP, 0, none⟩ = some (.pointer (some ⟨p0, 0, none⟩)) := Lib.cell_of_heap hcells 0
      have a2 : wr.cell? ⟨LP, 2, none⟩ = some (.pointer (some ⟨p2', 0, none⟩)) := Lib.cell_of_heap hcells 2
      have HCE := hide hcells
      have p1 : (j : Int) < (n : Int) := by omega
      have p2 : (0 : Int) ≤ (j : Int) := by omega
      have p3 : (j : Int) + 1 ≤ 9223372036854775807 := by omega
      have NEXT := hide (show ∀ (wx : World) (x y : Sc), Two wx a B LP 0 2 x y → x.size ≤ totO (l.take j) + es.length ∧ y.size ≤ totO (l.take j) + es.length → Below B w wx → ∃ (j' : Nat) (s s' : Sc), j' ≤ n ∧ Value.int .i64 ((j : Int) + 1) = .int .i64 j' ∧ n - (j + 1) = n - j' ∧ Hid (Two wx a B LP 0 2 s s') ∧ Hid (s.size ≤ totO (l.take j') ∧ s'.size ≤ totO (l.take j')) ∧ Hid (Below B w wx) from fun wx x y t hxy b =>
        ⟨j + 1, x, y, by omega, by go_num, rfl, hide t, hide (by have := HSZ.out.2.1; omega), hide b⟩)
      clear e0 e1 e2 e3 hq hin hcells hgb hgB hch htk hle htt hsz hjl hs4 hz4 hg
      by_cases hm : on.tmod 2 = 0
      · have hm2 : (on.tmod 2 != 0) = false := by simp [hm]
        have HD0 := hide (show _ ∧ _ ∧ _ from ⟨d0, d1, d2⟩)
        by_cases k5 : kd = 5
        · subst k5
          have CN := hide (jNew (w := wr) (a := a))
          obtain ⟨P5, hP5⟩ : ∃ P, wr.heap.size = P := ⟨_, rfl⟩
          rw [hP5] at CN
          have hB5 : B ≤ P5 := by have := HBe.out.size; have := HBB.out; omega
          go_wp2_with fail
          refine CN.out.mono ?_
          rintro e w5 ⟨rfl, g5, g6⟩
          have hs5 : B ≤ w5.heap.size := by have := g5.sc.lt; omega
          have CM := hide (dNewB (w := w5) (B := B) hs5)
          obtain ⟨R5, hR5⟩ : ∃ R, w5.heap.size = R := ⟨_, rfl⟩
          rw [hR5] at CM
          have G5 := hide (show _ ∧ _ ∧ _ from ⟨g5, g6, hR5⟩)
          clear g5 g6 CN hs5
          go_wp2_with fail
          refine CM.out.mono ?_
          rintro e w6 ⟨rfl, g7, g8⟩
          have TN := two_new0 (HTwo.out) hP5 G5.out.1 G5.out.2.1 G5.out.2.2 g7 g8
          have hPR : P5 < R5 := by have := G5.out.1.sc.lt; have := G5.out.2.2; omega
          have hLP5 : LP < P5 := by have := (Array.getElem?_eq_some_iff.1 HCE.out).1; omega
          have hc6 : w6.heap[LP]? = wr.heap[LP]? := by rw [g8.block LP (by omega), G5.out.2.1.block LP hLP5]
          have hc7 := hc6.trans HCE.out
          have z0 : w6.cell? ⟨LP, 0, none⟩ = some (.pointer (some ⟨p0, 0, none⟩)) := Lib.cell_of_heap hc7 0
          have z1 : w6.cell? ⟨LP, 1, none⟩ = some (.pointer (some ⟨r0, 0, none⟩)) := Lib.cell_of_heap hc7 1
          have z2 : w6.cell? ⟨LP, 2, none⟩ = some (.pointer (some ⟨p2', 0, none⟩)) := Lib.cell_of_heap hc7 2
          have z3 : w6.cell? ⟨LP, 3, none⟩ = some (.pointer (some ⟨r2', 0, none⟩)) := Lib.cell_of_heap hc7 3
          have y0 : w6.frozen? ⟨LP, 0, none⟩ = false := frozen_of_row _ LP 0 _ _ hc7
          have y1 : w6.frozen? ⟨LP, 1, none⟩ = false := frozen_of_row _ LP 1 _ _ hc7
          have y2 : w6.frozen? ⟨LP, 2, none⟩ = false := frozen_of_row _ LP 2 _ _ hc7
          have y3 : w6.frozen? ⟨LP, 3, none⟩ = false := frozen_of_row _ LP 3 _ _ hc7
          have HTN := hide TN
          clear g7 g8 CM hPR hLP5 hc6 hc7 TN a0 a2 d0 d1 d2
          go_wp2_with fail
          obtain ⟨W7, hW7⟩ : ∃ W7, (w6.setCell ⟨LP, 0, none⟩ (.pointer (some ⟨P5, 0, none⟩))).setCell ⟨LP, 1, none⟩ (.pointer (some ⟨R5, 0, none⟩)) = W7 := ⟨_, rfl⟩
          try rw [hW7]
          rw [hW7] at HTN
          have BU := hide (show Below B w W7 from HBe.out.trans HTN.out.2)
          have hg7 : W7.heap[g]? = w.heap[g]? := BU.out.block g HGB.out.1
          have BLE := hide (show B ≤ W7.heap.size by have := BU.out.size; have := HBB.out; omega)
          have CD := hide (show ∀ u, Below W7.heap.size W7 u → _ from fun u hu => two_does (kd := 5) (on := on) (HTN.out.1.below hu) (HSH.out.below (BU.out.trans (hu.mono BLE.out))) HES.out.1 HES.out.2 HS4.out.2)
          have K : Below W7.heap.size W7 W7.drew := (Below.refl _ _).drew
          have KS : W7.drew.cell? ⟨g, o + j * 3, none⟩ = some (.int .i64 5) ∧ W7.drew.cell? ⟨g, o + j * 3 + 1, none⟩ = some (.int .i64 on) ∧ W7.drew.cell? ⟨g, o + j * 3 + 2, none⟩ = some (.string ch) := ⟨(cell_block (hg7.trans HGB.out.2.symm) _).trans HD0.out.1, (cell_block (hg7.trans HGB.out.2.symm) _).trans HD0.out.2.1, (cell_block (hg7.trans HGB.out.2.symm) _).trans HD0.out.2.2⟩
          clear hg7 hW7 z0 z1 z2 z3 y0 y1 y2 y3
          go_region_held3 (fun u => u.cell? ⟨g, o + j * 3, none⟩ = some (.int .i64 5) ∧ u.cell? ⟨g, o + j * 3 + 1, none⟩ = some (.int .i64 on) ∧ u.cell? ⟨g, o + j * 3 + 2, none⟩ = some (.string ch)) (with_reducible exact KS)
            (first
              | (go_at_call 8; (refine (CD.out _ K).mono ?_); rintro e w9 ⟨rfl, t9, b9⟩
                 have B9 := hide (BU.out.trans ((K.mono BLE.out).trans b9))
                 have hg9 : w9.heap[g]? = w.heap[g]? := B9.out.block g HGB.out.1
                 have T9 := hide t9
                 replace KS : w9.cell? ⟨g, o + j * 3, none⟩ = some (.int .i64 5) ∧ w9.cell? ⟨g, o + j * 3 + 1, none⟩ = some (.int .i64 on) ∧ w9.cell? ⟨g, o + j * 3 + 2, none⟩ = some (.string ch) := ⟨by rw [cell_block (hg9.trans HGB.out.2.symm)]; exact HD0.out.1, by rw [cell_block (hg9.trans HGB.out.2.symm)]; exact HD0.out.2.1, by rw [cell_block (hg9.trans HGB.out.2.symm)]; exact HD0.out.2.2⟩
                 clear b9 hg9 t9))
          clear KS K
          go_wp2
          go_roundg (n - (j + 1))
          case measure => omega
          case rel => exact NEXT.out w9 _ _ (T9.out) (by rw [if_neg (by omega)]; have := HSZ.out.1; have : sc0.size = 0 := rfl; omega) B9.out
        · have k5' : (kd == 5) = false := beq_eq_false_iff_ne.2 k5
          have BU := hide HBe.out
          have BLE := hide (show B ≤ wr.heap.size by have := BU.out.size; have := HBB.out; omega)
          have CD := hide (show ∀ u, Below wr.heap.size wr u → _ from fun u hu => two_does (kd := kd) (on := on) ((HTwo.out).below hu) (HSH.out.below (BU.out.trans (hu.mono BLE.out))) HES.out.1 HES.out.2 HS4.out.1.1)
          have K : Below wr.heap.size wr wr.drew := (Below.refl _ _).drew
          have KS : wr.drew.cell? ⟨g, o + j * 3, none⟩ = some (.int .i64 kd) ∧ wr.drew.cell? ⟨g, o + j * 3 + 1, none⟩ = some (.int .i64 on) ∧ wr.drew.cell? ⟨g, o + j * 3 + 2, none⟩ = some (.string ch) := ⟨d0, d1, d2⟩
          clear k5
          go_wp2_with fail
          go_region_held3 (fun u => u.cell? ⟨g, o + j * 3, none⟩ = some (.int .i64 kd) ∧ u.cell? ⟨g, o + j * 3 + 1, none⟩ = some (.int .i64 on) ∧ u.cell? ⟨g, o + j * 3 + 2, none⟩ = some (.string ch)) (with_reducible exact KS)
            (first
              | (go_at_call 8; (refine (CD.out _ K).mono ?_); rintro e w9 ⟨rfl, t9, b9⟩
                 have B9 := hide (BU.out.trans ((K.mono BLE.out).trans b9))
                 have hg9 : w9.heap[g]? = w.heap[g]? := B9.out.block g HGB.out.1
                 have T9 := hide t9
                 replace KS : w9.cell? ⟨g, o + j * 3, none⟩ = some (.int .i64 kd) ∧ w9.cell? ⟨g, o + j * 3 + 1, none⟩ = some (.int .i64 on) ∧ w9.cell? ⟨g, o + j * 3 + 2, none⟩ = some (.string ch) := ⟨by rw [cell_block (hg9.trans HGB.out.2.symm)]; exact HD0.out.1, by rw [cell_block (hg9.trans HGB.out.2.symm)]; exact HD0.out.2.1, by rw [cell_block (hg9.trans HGB.out.2.symm)]; exact HD0.out.2.2⟩
                 clear b9 hg9 t9))
          clear KS K
          go_wp2
          go_roundg (n - (j + 1))
          case measure => omega
          case rel =>
            refine NEXT.out w9 _ _ (T9.out) ?_ B9.out
            have h1 := HSZ.out.1
            have h2 := (write_size es s).1
            split <;> omega
      · have hm2 : (on.tmod 2 != 0) = true := by simpa using hm
        have HD0 := hide (show _ ∧ _ ∧ _ from ⟨d0, d1, d2⟩)
        by_cases k5 : kd = 5
        · subst k5
          have CN := hide (jNew (w := wr) (a := a))
          obtain ⟨P5, hP5⟩ : ∃ P, wr.heap.size = P := ⟨_, rfl⟩
          rw [hP5] at CN
          have hB5 : B ≤ P5 := by have := HBe.out.size; have := HBB.out; omega
          go_wp2_with fail
          refine CN.out.mono ?_
          rintro e w5 ⟨rfl, g5, g6⟩
          have hs5 : B ≤ w5.heap.size := by have := g5.sc.lt; omega
          have CM := hide (dNewB (w := w5) (B := B) hs5)
          obtain ⟨R5, hR5⟩ : ∃ R, w5.heap.size = R := ⟨_, rfl⟩
          rw [hR5] at CM
          have G5 := hide (show _ ∧ _ ∧ _ from ⟨g5, g6, hR5⟩)
          clear g5 g6 CN hs5
          go_wp2_with fail
          refine CM.out.mono ?_
          rintro e w6 ⟨rfl, g7, g8⟩
          have TN := two_new2 (HTwo.out.swap0) hP5 G5.out.1 G5.out.2.1 G5.out.2.2 g7 g8
          have hPR : P5 < R5 := by have := G5.out.1.sc.lt; have := G5.out.2.2; omega
          have hLP5 : LP < P5 := by have := (Array.getElem?_eq_some_iff.1 HCE.out).1; omega
          have hc6 : w6.heap[LP]? = wr.heap[LP]? := by rw [g8.block LP (by omega), G5.out.2.1.block LP hLP5]
          have hc7 := hc6.trans HCE.out
          have z0 : w6.cell? ⟨LP, 0, none⟩ = some (.pointer (some ⟨p0, 0, none⟩)) := Lib.cell_of_heap hc7 0
          have z1 : w6.cell? ⟨LP, 1, none⟩ = some (.pointer (some ⟨r0, 0, none⟩)) := Lib.cell_of_heap hc7 1
          have z2 : w6.cell? ⟨LP, 2, none⟩ = some (.pointer (some ⟨p2', 0, none⟩)) := Lib.cell_of_heap hc7 2
          have z3 : w6.cell? ⟨LP, 3, none⟩ = some (.pointer (some ⟨r2', 0, none⟩)) := Lib.cell_of_heap hc7 3
          have y0 : w6.frozen? ⟨LP, 0, none⟩ = false := frozen_of_row _ LP 0 _ _ hc7
          have y1 : w6.frozen? ⟨LP, 1, none⟩ = false := frozen_of_row _ LP 1 _ _ hc7
          have y2 : w6.frozen? ⟨LP, 2, none⟩ = false := frozen_of_row _ LP 2 _ _ hc7
          have y3 : w6.frozen? ⟨LP, 3, none⟩ = false := frozen_of_row _ LP 3 _ _ hc7
          have HTN := hide TN
          clear g7 g8 CM hPR hLP5 hc6 hc7 TN a0 a2 d0 d1 d2
          go_wp2_with fail
          obtain ⟨W7, hW7⟩ : ∃ W7, (w6.setCell ⟨LP, 2, none⟩ (.pointer (some ⟨P5, 0, none⟩))).setCell ⟨LP, 3, none⟩ (.pointer (some ⟨R5, 0, none⟩)) = W7 := ⟨_, rfl⟩
          try rw [hW7]
          rw [hW7] at HTN
          have BU := hide (show Below B w W7 from HBe.out.trans HTN.out.2)
          have hg7 : W7.heap[g]? = w.heap[g]? := BU.out.block g HGB.out.1
          have BLE := hide (show B ≤ W7.heap.size by have := BU.out.size; have := HBB.out; omega)
          have CD := hide (show ∀ u, Below W7.heap.size W7 u → _ from fun u hu => two_does (kd := 5) (on := on) (HTN.out.1.below hu) (HSH.out.below (BU.out.trans (hu.mono BLE.out))) HES.out.1 HES.out.2 HS4.out.2)
          have K : Below W7.heap.size W7 W7.drew := (Below.refl _ _).drew
          have KS : W7.drew.cell? ⟨g, o + j * 3, none⟩ = some (.int .i64 5) ∧ W7.drew.cell? ⟨g, o + j * 3 + 1, none⟩ = some (.int .i64 on) ∧ W7.drew.cell? ⟨g, o + j * 3 + 2, none⟩ = some (.string ch) := ⟨(cell_block (hg7.trans HGB.out.2.symm) _).trans HD0.out.1, (cell_block (hg7.trans HGB.out.2.symm) _).trans HD0.out.2.1, (cell_block (hg7.trans HGB.out.2.symm) _).trans HD0.out.2.2⟩
          clear hg7 hW7 z0 z1 z2 z3 y0 y1 y2 y3
          go_region_held3 (fun u => u.cell? ⟨g, o + j * 3, none⟩ = some (.int .i64 5) ∧ u.cell? ⟨g, o + j * 3 + 1, none⟩ = some (.int .i64 on) ∧ u.cell? ⟨g, o + j * 3 + 2, none⟩ = some (.string ch)) (with_reducible exact KS)
            (first
              | (go_at_call 8; (refine (CD.out _ K).mono ?_); rintro e w9 ⟨rfl, t9, b9⟩
                 have B9 := hide (BU.out.trans ((K.mono BLE.out).trans b9))
                 have hg9 : w9.heap[g]? = w.heap[g]? := B9.out.block g HGB.out.1
                 have T9 := hide t9
                 replace KS : w9.cell? ⟨g, o + j * 3, none⟩ = some (.int .i64 5) ∧ w9.cell? ⟨g, o + j * 3 + 1, none⟩ = some (.int .i64 on) ∧ w9.cell? ⟨g, o + j * 3 + 2, none⟩ = some (.string ch) := ⟨by rw [cell_block (hg9.trans HGB.out.2.symm)]; exact HD0.out.1, by rw [cell_block (hg9.trans HGB.out.2.symm)]; exact HD0.out.2.1, by rw [cell_block (hg9.trans HGB.out.2.symm)]; exact HD0.out.2.2⟩
                 clear b9 hg9 t9))
          clear KS K
          go_wp2
          go_roundg (n - (j + 1))
          case measure => omega
          case rel => exact NEXT.out w9 _ _ ((T9.out).swap2) (by rw [if_neg (by omega)]; have := HSZ.out.1; have : sc0.size = 0 := rfl; omega) B9.out
        · have k5' : (kd == 5) = false := beq_eq_false_iff_ne.2 k5
          have BU := hide HBe.out
          have BLE := hide (show B ≤ wr.heap.size by have := BU.out.size; have := HBB.out; omega)
          have CD := hide (show ∀ u, Below wr.heap.size wr u → _ from fun u hu => two_does (kd := kd) (on := on) ((HTwo.out.swap0).below hu) (HSH.out.below (BU.out.trans (hu.mono BLE.out))) HES.out.1 HES.out.2 HS4.out.1.2)
          have K : Below wr.heap.size wr wr.drew := (Below.refl _ _).drew
          have KS : wr.drew.cell? ⟨g, o + j * 3, none⟩ = some (.int .i64 kd) ∧ wr.drew.cell? ⟨g, o + j * 3 + 1, none⟩ = some (.int .i64 on) ∧ wr.drew.cell? ⟨g, o + j * 3 + 2, none⟩ = some (.string ch) := ⟨d0, d1, d2⟩
          clear k5
          go_wp2_with fail
          go_region_held3 (fun u => u.cell? ⟨g, o + j * 3, none⟩ = some (.int .i64 kd) ∧ u.cell? ⟨g, o + j * 3 + 1, none⟩ = some (.int .i64 on) ∧ u.cell? ⟨g, o + j * 3 + 2, none⟩ = some (.string ch)) (with_reducible exact KS)
            (first
              | (go_at_call 8; (refine (CD.out _ K).mono ?_); rintro e w9 ⟨rfl, t9, b9⟩
                 have B9 := hide (BU.out.trans ((K.mono BLE.out).trans b9))
                 have hg9 : w9.heap[g]? = w.heap[g]? := B9.out.block g HGB.out.1
                 have T9 := hide t9
                 replace KS : w9.cell? ⟨g, o + j * 3, none⟩ = some (.int .i64 kd) ∧ w9.cell? ⟨g, o + j * 3 + 1, none⟩ = some (.int .i64 on) ∧ w9.cell? ⟨g, o + j * 3 + 2, none⟩ = some (.string ch) := ⟨by rw [cell_block (hg9.trans HGB.out.2.symm)]; exact HD0.out.1, by rw [cell_block (hg9.trans HGB.out.2.symm)]; exact HD0.out.2.1, by rw [cell_block (hg9.trans HGB.out.2.symm)]; exact HD0.out.2.2⟩
                 clear b9 hg9 t9))
          clear KS K
          go_wp2
          go_roundg (n - (j + 1))
          case measure => omega
          case rel =>
            refine NEXT.out w9 _ _ ((T9.out).swap2) ?_ B9.out
            have h1 := HSZ.out.1
            have h2 := (write_size es s').1
            split <;> omega
    · have p1 : ¬ ((j : Int) < (n : Int)) := by omega
      obtain ⟨p0, r0, p2', r2', hcells⟩ := HTwo.out.cells
      have a0 : wr.cell? ⟨LP, 0, none⟩ = some (.pointer (some ⟨p0, 0, none⟩)) := Lib.cell_of_heap hcells 0
      have a2 : wr.cell? ⟨LP, 2, none⟩ = some (.pointer (some ⟨p2', 0, none⟩)) := Lib.cell_of_heap hcells 2
      have hle := totO_le l j
      have htt := HT.out
      have hsz := HSz.out
      have C5 := hide (two_all HTwo.out (HSH.out.below HBe.out) (by omega))
      have HS4 := hide (show s'.size + 4 ≤ 140737488355328 by omega)
      clear hcells hle htt hsz
      go_wp2_with fail
      refine C5.out.mono ?_
      rintro e w5 ⟨rfl, t5, b5⟩
      have B5 := hide (HBe.out.trans b5)
      have C6 := hide (two_all t5.swap0 (HSH.out.below B5.out) HS4.out)
      clear t5 b5 C5 a0 a2
      go_wp2_with fail
      refine C6.out.mono ?_
      rintro e w6 ⟨rfl, t6, b6⟩
      have B6 := hide (B5.out.trans b6)
      have C7 := hide (jlives (HSH.out w6 B6.out).1 (HSH.out w6 B6.out).2)
      clear t6 b6 C6 B5
      go_wp2_with fail
      refine C7.out.mono ?_
      rintro e w7 ⟨rfl, hb7⟩
      have B7 := hide (B6.out.trans (hb7.mono (by have := B6.out.size; have := HBB.out; omega)))
      clear hb7 C7 B6
      go_wp2
      go_ret
      exact ⟨rfl, B7.out⟩

end Go.Proofs.YtefmlajndillbaaGreatDoor
