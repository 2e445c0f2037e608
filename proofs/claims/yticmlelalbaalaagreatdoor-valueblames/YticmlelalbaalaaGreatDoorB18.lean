import Derived.RangeFuncNested
import Derived.RangeFuncBound
import Derived.RangeFuncCalls
import Derived.RangeFuncLeaves
import Derived.RangeFuncBox
import Derived.Shelf.Abstract
import Derived.Shelf.RegionOpen
import Derived.OwnWalkIn
import Derived.TacticsInMore
import Derived.LoopNIn
import Derived.LoopIn
import Derived.Deep.RegionHeld3
import Derived.Deep.QuietTactic
import Derived.BigQuiet
import Derived.Test.YticmlelalbaalaaGreatDoorB02
import Derived.Deep.MidRow
namespace Go.Proofs.YticmlelalbaalaaGreatDoor
open Go.RowKit Go.Shelf
set_option linter.unusedVariables false
structure BelX (X : Nat → Prop) (n : Nat) (w w' : World) : Prop where
  os : w'.os = w.os
  tape : w'.tape = w.tape
  output : w'.output = w.output
  size : w.heap.size ≤ w'.heap.size
  block : ∀ k, k < n → ¬ X k → w'.heap[k]? = w.heap[k]?
theorem BelX.refl (X : Nat → Prop) (n : Nat) (w : World) : BelX X n w w := ⟨rfl, rfl, rfl, Nat.le_refl _, fun _ _ _ => rfl⟩
theorem BelX.trans {X : Nat → Prop} {n : Nat} {a b c : World} (h : BelX X n a b) (k : BelX X n b c) : BelX X n a c :=
  ⟨k.os.trans h.os, k.tape.trans h.tape, k.output.trans h.output, Nat.le_trans h.size k.size, fun i hi hx => (k.block i hi hx).trans (h.block i hi hx)⟩
theorem BelX.mono {X Y : Nat → Prop} {n m : Nat} {a b : World} (h : BelX X n a b) (hn : m ≤ n) (hx : ∀ k, k < m → X k → Y k) : BelX Y m a b :=
  ⟨h.os, h.tape, h.output, h.size, fun k hk hy => h.block k (by omega) (fun x => hy (hx k hk x))⟩
theorem BelX.of {X : Nat → Prop} {n B : Nat} {a b : World} (h : Below B a b) (hn : n ≤ B) : BelX X n a b :=
  ⟨h.os, h.tape, h.output, h.size, fun k hk _ => h.block k (by omega)⟩
theorem BelX.below {X : Nat → Prop} {n B : Nat} {a b : World} (h : BelX X n a b) (hn : B ≤ n) (hx : ∀ k, k < B → ¬ X k) : Below B a b :=
  ⟨h.os, h.tape, h.output, h.size, fun k hk => h.block k (by omega) (hx k hk)⟩
theorem BelX.grown {X : Nat → Prop} {n : Nat} {a b : World} {r : Option Nat} (h : a.grownBy b r) (hn : n ≤ a.heap.size) (hr : ∀ k, r = some k → n ≤ k ∨ X k) : BelX X n a b :=
  ⟨h.os, h.tape, h.output, h.size, fun k hk hx => h.block k (by omega) (fun e => by
    rcases hr k e.symm with h | h
    · omega
    · exact hx h)⟩
theorem BelX.cell {X : Nat → Prop} {n : Nat} {a b : World} (h : BelX X n a b) {p : Addr} (hp : p.block < n) (hx : ¬ X p.block) : b.cell? p = a.cell? p := World.cell?_of_block (h.block _ hp hx)
theorem BelX.boxed {X : Nat → Prop} {n : Nat} {a b : World} (h : BelX X n a b) {B : Nat} {t : TypeId} {v : Value} (hb : Boxed a B t v) (hp : B < n) (hx : ¬ X B) : Boxed b B t v := (h.block B hp hx).trans hb
theorem ograwn {w w' : World} (h : Below w.heap.size w w') : w.grownBy w' none := ⟨h.os, h.tape, h.output, h.size, fun k hk _ => h.block k hk⟩
structure Cl where
  k : Int
  n : Int
  g : Bool
  mo : Option Addr
  ml : Nat
  mc : Nat
  b : Int
  e : Int
  t : ByteArray
  ko : Option Addr
  kl : Nat
  kc : Nat
def Cl.L (c : Cl) : List Value := [.int .i8 c.k, .int .u64 c.n, .bool c.g, .slice c.mo c.ml c.mc, .int .u64 c.b, .int .i8 c.e, .string c.t, .slice c.ko c.kl c.kc]
def Cl.V (c : Cl) : Value := .agg c.L.toArray
abbrev En := Cl × Cl × Int
def enL (x : En) : List Value := x.1.L ++ x.2.1.L ++ [.int .i64 x.2.2]
def enV (x : En) : Value := .agg (enL x).toArray
def enEncs (x : En) : Array Value := #[enV x]
theorem enL_len (x : En) : (enL x).length = 17 := rfl
theorem enL_one (x : En) : ∀ v ∈ enL x, v.oneCell' = true := by
  intro v hv
  simp only [enL, Cl.L, List.mem_append, List.mem_cons, List.not_mem_nil, or_false] at hv
  rcases hv with (h | h) | h
  · rcases h with rfl | rfl | rfl | rfl | rfl | rfl | rfl | rfl <;> rfl
  · rcases h with rfl | rfl | rfl | rfl | rfl | rfl | rfl | rfl <;> rfl
  · subst h; rfl
def enZ : En := (⟨0, 0, false, none, 0, 0, 0, 0, ⟨#[]⟩, none, 0, 0⟩, ⟨0, 0, false, none, 0, 0, 0, 0, ⟨#[]⟩, none, 0, 0⟩, 0)
def EnIn (w : World) (g o : Nat) (xs : List En) : Prop := ∀ i (h : i < xs.length), w.rangeAt g (o + i * 17) (enL xs[i])
def EnRd (G : Nat → Prop) (w : World) (v : Value) (xs : List En) : Prop :=
  ∃ ao cap, v = .slice ao xs.length cap ∧ xs.length ≤ cap ∧ cap ≤ maxLen ∧ (0 < xs.length → ∃ g o, ao = some ⟨g, o, none⟩ ∧ G g ∧ g < w.heap.size ∧ EnIn w g o xs)
theorem range_blk {w w' : World} {b o : Nat} {cs : List Value} (h : w.rangeAt b o cs) (e : w'.heap[b]? = w.heap[b]?) : w'.rangeAt b o cs := fun j v hv => (World.cell?_of_block e).trans (h j v hv)
theorem EnRd.mono {G H : Nat → Prop} {w : World} {v : Value} {xs : List En} (h : EnRd G w v xs) (hG : ∀ g, g < w.heap.size → G g → H g) : EnRd H w v xs := by
  obtain ⟨ao, cap, h1, h2, h3, h4⟩ := h
  refine ⟨ao, cap, h1, h2, h3, fun hp => ?_⟩
  obtain ⟨g, o, e, hg, hl, hi⟩ := h4 hp
  exact ⟨g, o, e, hG g hl hg, hl, hi⟩
structure CmpIsE (I : World → Prop) (cv : Value) (Pd : En → Prop) (f : En → En → Int) : Prop where
  val : ∃ g lb, cv = .func (.func g) #[] lb ∧ (∀ args w, (callFunc g args).run Tryz.prog w = .ok (.enter g args) w) ∧
    ∀ W a b, I W → Pd a → Pd b → Calls Tryz.prog g (#[enV a, enV b] ++ lb) W fun e W' => e = .returned (.int .i64 (f a b)) ∧ Below W.heap.size W W'
theorem enInfo : (Tryz.prog.info? 112).map (·.size) = some 17 := by kernel_rfl
theorem enDesc : ∃ d, Tryz.prog.underlying 112 = some d ∧ d.isRow = true := ⟨_, Tryz.underlying112, rfl⟩
theorem run_ld {W : World} {b o : Nat} {x : En} (h : W.rangeAt b o (enL x)) : (Instr.loadAt 112 (.pointer (some ⟨b, o, none⟩))).run Tryz.prog W = .ok (enV x) W := by
  obtain ⟨d, h1, h2⟩ := enDesc
  exact run_loadAt_mid W b o _ (enL x) d h h1 h2 enInfo
theorem run_st {W : World} {b o : Nat} {x : En} (h : W.there b o 17) : (Instr.storeAt 112 (.pointer (some ⟨b, o, none⟩)) (enV x)).run Tryz.prog W = .ok () (W.setCells b o (enL x)) :=
  run_storeAt_mid W b o _ (enL x).toArray (by simpa [enL_len] using h) (by rw [enInfo]; rfl) (all_oneCell_toArray (enL_one x))
theorem wpListIn_ld {F : Fence} {n : Nat} {ops : Array Oper} {rest : List Oper} {o : Oper} {a : Act} {w : World} {Q : Exit → Act → World → Prop} (hgd : o.guard = none) (y : Operand) (ho : o.op = .load 112 y)
    (b f : Nat) (hy : a.eval y = .pointer (some ⟨b, f, none⟩)) (x : En) (hx : w.rangeAt b f (enL x)) (h : wpListIn F n Tryz.prog ops Q rest (a.put o.dst (enV x)) w) : wpListIn F n Tryz.prog ops Q (o :: rest) a w := by
  refine wpListIn_plain hgd fun K hK' => ?_
  unfold Oper.wpIn
  refine ⟨by simp [Oper.about, ho], ?_⟩
  rw [Oper.semAt_plain F _ _ (by rw [ho]; intro c hc'; cases hc')]
  simp only [execOp, ho, hy, run_ld hx, Sem.run_bind, Sem.run_pure, Result.andThen_ok]
  exact hK' _ _ h
theorem wpListIn_st {F : Fence} {n : Nat} {ops : Array Oper} {rest : List Oper} {o : Oper} {a : Act} {w : World} {Q : Exit → Act → World → Prop} (hgd : o.guard = none) (y z : Operand) (ho : o.op = .store 112 y z)
    (b f : Nat) (hy : a.eval y = .pointer (some ⟨b, f, none⟩)) (x : En) (hz : a.eval z = enV x) (hx : w.there b f 17) (h : wpListIn F n Tryz.prog ops Q rest (a.put o.dst undef) (w.setCells b f (enL x))) : wpListIn F n Tryz.prog ops Q (o :: rest) a w := by
  refine wpListIn_plain hgd fun K hK' => ?_
  unfold Oper.wpIn
  refine ⟨by simp [Oper.about, ho], ?_⟩
  rw [Oper.semAt_plain F _ _ (by rw [ho]; intro c hc'; cases hc')]
  simp only [execOp, ho, hy, hz, run_st hx, Sem.run_bind, Sem.run_pure, Result.andThen_ok]
  exact hK' _ _ h
theorem below_cells {B b : Nat} {w w' : World} (h : Below B w w') (hb : B ≤ b) : ∀ (vs : List Value) (o : Nat), Below B w (w'.setCells b o vs) := by
  intro vs
  induction vs generalizing w' with
  | nil => intro o; exact h
  | cons v r ih => intro o; exact ih (h.setCell (p := ⟨b, o, none⟩) hb v) (o + 1)
theorem grown_cells (b : Nat) : ∀ (vs : List Value) (o : Nat) (w : World), w.grownBy (w.setCells b o vs) (some b)
  | [], _, w => ⟨rfl, rfl, rfl, Nat.le_refl _, fun _ _ _ => rfl⟩
  | v :: r, o, w => by
    have h1 : w.grownBy (w.setCell ⟨b, o, none⟩ v) (some b) := by
      have hz := (Below.refl 0 w).setCell (p := ⟨b, o, none⟩) (Nat.zero_le _) v
      exact ⟨hz.os, hz.tape, hz.output, hz.size, fun k _ hk => heap_setCell_other w _ k _ (fun e => hk (by rw [e]))⟩
    have h2 := grown_cells b r (o + 1) (w.setCell ⟨b, o, none⟩ v)
    exact ⟨h2.os.trans h1.os, h2.tape.trans h1.tape, h2.output.trans h1.output, Nat.le_trans h1.size h2.size, fun i hi hr => (h2.block i (Nat.lt_of_lt_of_le hi h1.size) hr).trans (h1.block i hi hr)⟩
theorem there_blk {w : World} {b : Nat} {cur : Array Value} {t : TypeId} (h : w.heap[b]? = some (.cells cur t (0, 0))) {o n : Nat} (hn : o + n ≤ cur.size) : w.there b o n := by
  intro j hj
  have hlt : o + j < cur.size := by omega
  refine ⟨?_, frozen_of_row w b (o + j) _ _ h⟩
  rw [cell_of_row w b (o + j) _ _ _ h, Array.getElem?_eq_getElem hlt]
  rfl
theorem obel_drewN (w : World) (n : Nat) : Below w.heap.size w (w.drewN n) := by
  induction n with
  | zero => exact Below.refl _ _
  | succ n ih => exact ⟨ih.os, ih.tape, ih.output, ih.size, ih.block⟩
def mrg {α : Type} (f : α → α → Int) : List α → List α → List α
  | [], ys => ys
  | x :: xs, [] => x :: xs
  | x :: xs, y :: ys => if f y x < 0 then y :: mrg f (x :: xs) ys else x :: mrg f xs (y :: ys)
termination_by xs ys => xs.length + ys.length
theorem mrg_nil {α : Type} (f : α → α → Int) (xs : List α) : mrg f xs [] = xs := by cases xs <;> simp [mrg]
theorem mrg_len {α : Type} (f : α → α → Int) (xs ys : List α) : (mrg f xs ys).length = xs.length + ys.length := by
  fun_induction mrg f xs ys with
  | case1 ys => simp
  | case2 x xs => simp
  | case3 x xs y ys h ih => simp [ih]; omega
  | case4 x xs y ys h ih => simp [ih]; omega
theorem mrg_b {α : Type} {f : α → α → Int} {xs ys : List α} {i j : Nat} {y : α} (hi : ¬ i < xs.length) (hj : j < ys.length) (hy : ys[j] = y) : mrg f (xs.drop i) (ys.drop j) = y :: mrg f (xs.drop i) (ys.drop (j + 1)) := by
  rw [List.drop_eq_nil_of_le (by omega), List.drop_eq_getElem_cons hj, hy]
  simp [mrg]
theorem mrg_a {α : Type} {f : α → α → Int} {xs ys : List α} {i j : Nat} {x : α} (hi : i < xs.length) (hj : ¬ j < ys.length) (hx : xs[i] = x) : mrg f (xs.drop i) (ys.drop j) = x :: mrg f (xs.drop (i + 1)) (ys.drop j) := by
  rw [show ys.drop j = [] from List.drop_eq_nil_of_le (by omega), List.drop_eq_getElem_cons hi, hx]
  simp [mrg_nil]
theorem mrg_lt {α : Type} {f : α → α → Int} {xs ys : List α} {i j : Nat} {x y : α} (hi : i < xs.length) (hj : j < ys.length) (hx : xs[i] = x) (hy : ys[j] = y) (h : f ys[j] xs[i] < 0) : mrg f (xs.drop i) (ys.drop j) = y :: mrg f (xs.drop i) (ys.drop (j + 1)) := by
  rw [List.drop_eq_getElem_cons hi, List.drop_eq_getElem_cons hj, mrg, if_pos h, hy]
theorem mrg_ge {α : Type} {f : α → α → Int} {xs ys : List α} {i j : Nat} {x y : α} (hi : i < xs.length) (hj : j < ys.length) (hx : xs[i] = x) (hy : ys[j] = y) (h : 0 ≤ f ys[j] xs[i]) : mrg f (xs.drop i) (ys.drop j) = x :: mrg f (xs.drop (i + 1)) (ys.drop j) := by
  rw [List.drop_eq_getElem_cons hi, List.drop_eq_getElem_cons hj, mrg, if_neg (Int.not_lt.2 h), hx]
end Go.Proofs.YticmlelalbaalaaGreatDoor
