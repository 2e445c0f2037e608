/- layer 12: lists of items in memory; what is kept; an order that is handed in -/
import Derived.RangeFuncNested
import Derived.RangeFuncBound
import Derived.RangeFuncCalls
import Derived.RangeFuncLeaves
import Derived.RangeFuncBox
import Derived.Shelf.Abstract
import Derived.Shelf.RegionOpen
import Derived.OwnWalkIn
import Derived.TacticsInMore
import Derived.LoopNIn
import Derived.LoopIn
import Derived.Deep.RegionHeld3
import Derived.Deep.QuietTactic
import Derived.BigQuiet
import Derived.Test.YtomieeajmelglaaKit
namespace Go.Proofs.Ytomieeajmelglaa
open Go.RowKit Go.Shelf
set_option linter.unusedVariables false

/-- all below n but the blocks X lies as it lay -/
structure BelX (X : Nat → Prop) (n : Nat) (w w' : World) : Prop where
  os : w'.os = w.os
  tape : w'.tape = w.tape
  output : w'.output = w.output
  size : w.heap.size ≤ w'.heap.size
  block : ∀ k, k < n → ¬ X k → w'.heap[k]? = w.heap[k]?
theorem BelX.refl (X : Nat → Prop) (n : Nat) (w : World) : BelX X n w w := ⟨rfl, rfl, rfl, Nat.le_refl _, fun _ _ _ => rfl⟩
theorem BelX.trans {X : Nat → Prop} {n : Nat} {a b c : World} (h : BelX X n a b) (k : BelX X n b c) : BelX X n a c :=
  ⟨k.os.trans h.os, k.tape.trans h.tape, k.output.trans h.output, Nat.le_trans h.size k.size, fun i hi hx => (k.block i hi hx).trans (h.block i hi hx)⟩
theorem BelX.mono {X Y : Nat → Prop} {n m : Nat} {a b : World} (h : BelX X n a b) (hn : m ≤ n) (hx : ∀ k, k < m → X k → Y k) : BelX Y m a b :=
  ⟨h.os, h.tape, h.output, h.size, fun k hk hy => h.block k (by omega) (fun x => hy (hx k hk x))⟩
theorem BelX.of {X : Nat → Prop} {n B : Nat} {a b : World} (h : Below B a b) (hn : n ≤ B) : BelX X n a b :=
  ⟨h.os, h.tape, h.output, h.size, fun k hk _ => h.block k (by omega)⟩
theorem BelX.below {X : Nat → Prop} {n B : Nat} {a b : World} (h : BelX X n a b) (hn : B ≤ n) (hx : ∀ k, k < B → ¬ X k) : Below B a b :=
  ⟨h.os, h.tape, h.output, h.size, fun k hk => h.block k (by omega) (hx k hk)⟩
theorem BelX.grown {X : Nat → Prop} {n : Nat} {a b : World} {r : Option Nat} (h : a.grownBy b r) (hn : n ≤ a.heap.size) (hr : ∀ k, r = some k → n ≤ k ∨ X k) : BelX X n a b :=
  ⟨h.os, h.tape, h.output, h.size, fun k hk hx => h.block k (by omega) (fun e => by
    rcases hr k e.symm with h | h
    · omega
    · exact hx h)⟩
theorem BelX.cell {X : Nat → Prop} {n : Nat} {a b : World} (h : BelX X n a b) {p : Addr} (hp : p.block < n) (hx : ¬ X p.block) : b.cell? p = a.cell? p := World.cell?_of_block (h.block _ hp hx)
theorem BelX.boxed {X : Nat → Prop} {n : Nat} {a b : World} (h : BelX X n a b) {B : Nat} {t : TypeId} {v : Value} (hb : Boxed a B t v) (hp : B < n) (hx : ¬ X B) : Boxed b B t v := (h.block B hp hx).trans hb
theorem ograwn {w w' : World} (h : Below w.heap.size w w') : w.grownBy w' none := ⟨h.os, h.tape, h.output, h.size, fun k hk _ => h.block k hk⟩

/-- an item -/
abbrev It := Int × Int
abbrev itV (x : It) : Value := .agg #[.int .i64 x.1, .int .i64 x.2]
abbrev itEncs (x : It) : Array Value := #[itV x]
/-- the cells from a place on hold these items -/
def ItIn (w : World) (g o : Nat) (xs : List It) : Prop := ∀ i (h : i < xs.length), w.cell? ⟨g, o + i * 2, none⟩ = some (.int .i64 xs[i].1) ∧ w.cell? ⟨g, o + i * 2 + 1, none⟩ = some (.int .i64 xs[i].2)
/-- the value is a list of these items, in a block of which G holds -/
def ItRd (G : Nat → Prop) (w : World) (v : Value) (xs : List It) : Prop :=
  ∃ ao cap, v = .slice ao xs.length cap ∧ xs.length ≤ cap ∧ cap ≤ maxLen ∧ (0 < xs.length → ∃ g o, ao = some ⟨g, o, none⟩ ∧ G g ∧ g < w.heap.size ∧ ItIn w g o xs)
theorem ItRd.belx {X G : Nat → Prop} {n : Nat} {w w' : World} {v : Value} {xs : List It} (h : ItRd G w v xs) (hb : BelX X n w w') (hG : ∀ g, G g → g < n ∧ ¬ X g) : ItRd G w' v xs := by
  obtain ⟨ao, cap, h1, h2, h3, h4⟩ := h
  refine ⟨ao, cap, h1, h2, h3, fun hp => ?_⟩
  obtain ⟨g, o, e, hg, hl, hi⟩ := h4 hp
  refine ⟨g, o, e, hg, Nat.lt_of_lt_of_le hl hb.size, fun i hi' => ?_⟩
  have q := hG g hg
  exact ⟨(hb.cell (p := ⟨g, _, none⟩) q.1 q.2).trans (hi i hi').1, (hb.cell (p := ⟨g, _, none⟩) q.1 q.2).trans (hi i hi').2⟩
theorem ItRd.below {G : Nat → Prop} {w w' : World} {v : Value} {xs : List It} (h : ItRd G w v xs) (hb : Below w.heap.size w w') : ItRd G w' v xs := by
  obtain ⟨ao, cap, h1, h2, h3, h4⟩ := h
  refine ⟨ao, cap, h1, h2, h3, fun hp => ?_⟩
  obtain ⟨g, o, e, hg, hl, hi⟩ := h4 hp
  refine ⟨g, o, e, hg, Nat.lt_of_lt_of_le hl hb.size, fun i hi' => ?_⟩
  exact ⟨(hb.cell (p := ⟨g, _, none⟩) hl).trans (hi i hi').1, (hb.cell (p := ⟨g, _, none⟩) hl).trans (hi i hi').2⟩
theorem ItRd.mono {G H : Nat → Prop} {w : World} {v : Value} {xs : List It} (h : ItRd G w v xs) (hG : ∀ g, g < w.heap.size → G g → H g) : ItRd H w v xs := by
  obtain ⟨ao, cap, h1, h2, h3, h4⟩ := h
  refine ⟨ao, cap, h1, h2, h3, fun hp => ?_⟩
  obtain ⟨g, o, e, hg, hl, hi⟩ := h4 hp
  exact ⟨g, o, e, hG g hl hg, hl, hi⟩

/-- an order that is handed in: what it answers wherever I holds -/
structure CmpIs (I : World → Prop) (cv : Value) (f : It → It → Int) : Prop where
  val : ∃ g lb, cv = .func (.func g) #[] lb ∧ (∀ args w, (callFunc g args).run Try.prog w = .ok (.enter g args) w) ∧
    ∀ W a b, I W → Calls Try.prog g (#[itV a, itV b] ++ lb) W fun e W' => e = .returned (.int .i64 (f a b)) ∧ Below W.heap.size W W'

theorem obel_drewN (w : World) (n : Nat) : Below w.heap.size w (w.drewN n) := by
  induction n with
  | zero => exact Below.refl _ _
  | succ n ih => exact ⟨ih.os, ih.tape, ih.output, ih.size, ih.block⟩
/-- a new item's box, written -/
theorem item_new {wr W1 U : World} (h : W1.heap[wr.heap.size]? = some (.cells #[.int .i64 0, .int .i64 0] 27 (0, 0))) (K : Below W1.heap.size W1 U) (K1 : Below wr.heap.size wr W1) (x : It) :
    U.cell? ⟨wr.heap.size, 0, none⟩ = some (.int .i64 0) ∧ U.cell? ⟨wr.heap.size, 1, none⟩ = some (.int .i64 0) ∧ U.frozen? ⟨wr.heap.size, 0, none⟩ = false ∧ U.frozen? ⟨wr.heap.size, 1, none⟩ = false ∧
      Below wr.heap.size wr ((U.setCell ⟨wr.heap.size, 0, none⟩ (.int .i64 x.1)).setCell ⟨wr.heap.size, 1, none⟩ (.int .i64 x.2)) ∧ wr.heap.size ≤ U.heap.size := by
  have hl : wr.heap.size < W1.heap.size := (Array.getElem?_eq_some_iff.1 h).1
  have h2 := (K.block _ hl).trans h
  have k2 : Below wr.heap.size wr U := K1.trans (K.mono (by omega))
  exact ⟨cell_of_row U _ 0 _ _ _ h2, cell_of_row U _ 1 _ _ _ h2, frozen_of_row U _ 0 _ _ h2, frozen_of_row U _ 1 _ _ h2, (k2.setCell (p := ⟨wr.heap.size, 0, none⟩) (Nat.le_refl _) _).setCell (p := ⟨wr.heap.size, 1, none⟩) (Nat.le_refl _) _, k2.size⟩

/-- two lists as one -/
def mrg {α : Type} (f : α → α → Int) : List α → List α → List α
  | [], ys => ys
  | x :: xs, [] => x :: xs
  | x :: xs, y :: ys => if f y x < 0 then y :: mrg f (x :: xs) ys else x :: mrg f xs (y :: ys)
termination_by xs ys => xs.length + ys.length
theorem mrg_nil {α : Type} (f : α → α → Int) (xs : List α) : mrg f xs [] = xs := by cases xs <;> simp [mrg]
theorem mrg_len {α : Type} (f : α → α → Int) (xs ys : List α) : (mrg f xs ys).length = xs.length + ys.length := by
  fun_induction mrg f xs ys with
  | case1 ys => simp
  | case2 x xs => simp
  | case3 x xs y ys h ih => simp [ih]; omega
  | case4 x xs y ys h ih => simp [ih]; omega
theorem mrg_b {α : Type} {f : α → α → Int} {xs ys : List α} {i j : Nat} {y : α} (hi : ¬ i < xs.length) (hj : j < ys.length) (hy : ys[j] = y) : mrg f (xs.drop i) (ys.drop j) = y :: mrg f (xs.drop i) (ys.drop (j + 1)) := by
  rw [List.drop_eq_nil_of_le (by omega), List.drop_eq_getElem_cons hj, hy]
  simp [mrg]
theorem mrg_a {α : Type} {f : α → α → Int} {xs ys : List α} {i j : Nat} {x : α} (hi : i < xs.length) (hj : ¬ j < ys.length) (hx : xs[i] = x) : mrg f (xs.drop i) (ys.drop j) = x :: mrg f (xs.drop (i + 1)) (ys.drop j) := by
  rw [show ys.drop j = [] from List.drop_eq_nil_of_le (by omega), List.drop_eq_getElem_cons hi, hx]
  simp [mrg_nil]
theorem mrg_lt {α : Type} {f : α → α → Int} {xs ys : List α} {i j : Nat} {x y : α} (hi : i < xs.length) (hj : j < ys.length) (hx : xs[i] = x) (hy : ys[j] = y) (h : f ys[j] xs[i] < 0) : mrg f (xs.drop i) (ys.drop j) = y :: mrg f (xs.drop i) (ys.drop (j + 1)) := by
  rw [List.drop_eq_getElem_cons hi, List.drop_eq_getElem_cons hj, mrg, if_pos h, hy]
theorem mrg_ge {α : Type} {f : α → α → Int} {xs ys : List α} {i j : Nat} {x y : α} (hi : i < xs.length) (hj : j < ys.length) (hx : xs[i] = x) (hy : ys[j] = y) (h : 0 ≤ f ys[j] xs[i]) : mrg f (xs.drop i) (ys.drop j) = x :: mrg f (xs.drop (i + 1)) (ys.drop j) := by
  rw [List.drop_eq_getElem_cons hi, List.drop_eq_getElem_cons hj, mrg, if_neg (Int.not_lt.2 h), hx]

end Go.Proofs.Ytomieeajmelglaa
