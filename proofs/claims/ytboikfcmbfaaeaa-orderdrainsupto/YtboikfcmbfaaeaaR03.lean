/- OKit, OMerged, ORow, ORuns, OKitN, OHeld, ORepN, OHl, OMergedN, ORunsN, OHk -/
import Derived.RangeFuncNested
import Derived.RangeFuncBound
import Derived.RangeFuncCalls
import Derived.RangeFuncLeaves
import Derived.RangeFuncBox
import Derived.Shelf.Abstract
import Derived.Shelf.RegionOpen
import Derived.OwnWalkIn
import Derived.TacticsInMore
import Derived.LoopNIn
import Derived.LoopIn
import Derived.Deep.RegionHeld3
import Derived.Deep.QuietTactic
import Derived.BigQuiet
import Derived.Test.YtboikfcmbfaaeaaR02
import Derived.OrdersIn
import Derived.OrdersHeld
import Derived.RegionTactic
namespace Go.Proofs.Ytboikfcmbfaaeaa
open Go.RowKit Go.Shelf
set_option linter.unusedVariables false

/-- all below n but the blocks X lies as it lay -/
structure BelX (X : Nat → Prop) (n : Nat) (w w' : World) : Prop where
  os : w'.os = w.os
  tape : w'.tape = w.tape
  output : w'.output = w.output
  size : w.heap.size ≤ w'.heap.size
  block : ∀ k, k < n → ¬ X k → w'.heap[k]? = w.heap[k]?
theorem BelX.refl (X : Nat → Prop) (n : Nat) (w : World) : BelX X n w w := ⟨rfl, rfl, rfl, Nat.le_refl _, fun _ _ _ => rfl⟩
theorem BelX.trans {X : Nat → Prop} {n : Nat} {a b c : World} (h : BelX X n a b) (k : BelX X n b c) : BelX X n a c :=
  ⟨k.os.trans h.os, k.tape.trans h.tape, k.output.trans h.output, Nat.le_trans h.size k.size, fun i hi hx => (k.block i hi hx).trans (h.block i hi hx)⟩
theorem BelX.mono {X Y : Nat → Prop} {n m : Nat} {a b : World} (h : BelX X n a b) (hn : m ≤ n) (hx : ∀ k, k < m → X k → Y k) : BelX Y m a b :=
  ⟨h.os, h.tape, h.output, h.size, fun k hk hy => h.block k (by omega) (fun x => hy (hx k hk x))⟩
theorem BelX.of {X : Nat → Prop} {n B : Nat} {a b : World} (h : Below B a b) (hn : n ≤ B) : BelX X n a b :=
  ⟨h.os, h.tape, h.output, h.size, fun k hk _ => h.block k (by omega)⟩
theorem BelX.below {X : Nat → Prop} {n B : Nat} {a b : World} (h : BelX X n a b) (hn : B ≤ n) (hx : ∀ k, k < B → ¬ X k) : Below B a b :=
  ⟨h.os, h.tape, h.output, h.size, fun k hk => h.block k (by omega) (hx k hk)⟩
theorem BelX.grown {X : Nat → Prop} {n : Nat} {a b : World} {r : Option Nat} (h : a.grownBy b r) (hn : n ≤ a.heap.size) (hr : ∀ k, r = some k → n ≤ k ∨ X k) : BelX X n a b :=
  ⟨h.os, h.tape, h.output, h.size, fun k hk hx => h.block k (by omega) (fun e => by
    rcases hr k e.symm with h | h
    · omega
    · exact hx h)⟩
theorem BelX.cell {X : Nat → Prop} {n : Nat} {a b : World} (h : BelX X n a b) {p : Addr} (hp : p.block < n) (hx : ¬ X p.block) : b.cell? p = a.cell? p := World.cell?_of_block (h.block _ hp hx)
theorem BelX.boxed {X : Nat → Prop} {n : Nat} {a b : World} (h : BelX X n a b) {B : Nat} {t : TypeId} {v : Value} (hb : Boxed a B t v) (hp : B < n) (hx : ¬ X B) : Boxed b B t v := (h.block B hp hx).trans hb
theorem ograwn {w w' : World} (h : Below w.heap.size w w') : w.grownBy w' none := ⟨h.os, h.tape, h.output, h.size, fun k hk _ => h.block k hk⟩

/-- an item -/
abbrev It := Int × Int
abbrev itV (x : It) : Value := .agg #[.int .i64 x.1, .int .i64 x.2]
abbrev itEncs (x : It) : Array Value := #[itV x]
/-- the cells from a place on hold these items -/
def ItIn (w : World) (g o : Nat) (xs : List It) : Prop := ∀ i (h : i < xs.length), w.cell? ⟨g, o + i * 2, none⟩ = some (.int .i64 xs[i].1) ∧ w.cell? ⟨g, o + i * 2 + 1, none⟩ = some (.int .i64 xs[i].2)
/-- the value is a list of these items, in a block of which G holds -/
def ItRd (G : Nat → Prop) (w : World) (v : Value) (xs : List It) : Prop :=
  ∃ ao cap, v = .slice ao xs.length cap ∧ xs.length ≤ cap ∧ cap ≤ maxLen ∧ (0 < xs.length → ∃ g o, ao = some ⟨g, o, none⟩ ∧ G g ∧ g < w.heap.size ∧ ItIn w g o xs)
theorem ItRd.belx {X G : Nat → Prop} {n : Nat} {w w' : World} {v : Value} {xs : List It} (h : ItRd G w v xs) (hb : BelX X n w w') (hG : ∀ g, G g → g < n ∧ ¬ X g) : ItRd G w' v xs := by
  obtain ⟨ao, cap, h1, h2, h3, h4⟩ := h
  refine ⟨ao, cap, h1, h2, h3, fun hp => ?_⟩
  obtain ⟨g, o, e, hg, hl, hi⟩ := h4 hp
  refine ⟨g, o, e, hg, Nat.lt_of_lt_of_le hl hb.size, fun i hi' => ?_⟩
  have q := hG g hg
  exact ⟨(hb.cell (p := ⟨g, _, none⟩) q.1 q.2).trans (hi i hi').1, (hb.cell (p := ⟨g, _, none⟩) q.1 q.2).trans (hi i hi').2⟩
theorem ItRd.below {G : Nat → Prop} {w w' : World} {v : Value} {xs : List It} (h : ItRd G w v xs) (hb : Below w.heap.size w w') : ItRd G w' v xs := by
  obtain ⟨ao, cap, h1, h2, h3, h4⟩ := h
  refine ⟨ao, cap, h1, h2, h3, fun hp => ?_⟩
  obtain ⟨g, o, e, hg, hl, hi⟩ := h4 hp
  refine ⟨g, o, e, hg, Nat.lt_of_lt_of_le hl hb.size, fun i hi' => ?_⟩
  exact ⟨(hb.cell (p := ⟨g, _, none⟩) hl).trans (hi i hi').1, (hb.cell (p := ⟨g, _, none⟩) hl).trans (hi i hi').2⟩
theorem ItRd.mono {G H : Nat → Prop} {w : World} {v : Value} {xs : List It} (h : ItRd G w v xs) (hG : ∀ g, g < w.heap.size → G g → H g) : ItRd H w v xs := by
  obtain ⟨ao, cap, h1, h2, h3, h4⟩ := h
  refine ⟨ao, cap, h1, h2, h3, fun hp => ?_⟩
  obtain ⟨g, o, e, hg, hl, hi⟩ := h4 hp
  exact ⟨g, o, e, hG g hl hg, hl, hi⟩

/-- an order that is handed in: what it answers wherever I holds -/
structure CmpIs (I : World → Prop) (cv : Value) (f : It → It → Int) : Prop where
  val : ∃ g lb, cv = .func (.func g) #[] lb ∧ (∀ args w, (callFunc g args).run Try.prog w = .ok (.enter g args) w) ∧
    ∀ W a b, I W → Calls Try.prog g (#[itV a, itV b] ++ lb) W fun e W' => e = .returned (.int .i64 (f a b)) ∧ Below W.heap.size W W'

theorem obel_drewN (w : World) (n : Nat) : Below w.heap.size w (w.drewN n) := by
  induction n with
  | zero => exact Below.refl _ _
  | succ n ih => exact ⟨ih.os, ih.tape, ih.output, ih.size, ih.block⟩
/-- a new item's box, written -/
theorem item_new {wr W1 U : World} (h : W1.heap[wr.heap.size]? = some (.cells #[.int .i64 0, .int .i64 0] 29 (0, 0))) (K : Below W1.heap.size W1 U) (K1 : Below wr.heap.size wr W1) (x : It) :
    U.cell? ⟨wr.heap.size, 0, none⟩ = some (.int .i64 0) ∧ U.cell? ⟨wr.heap.size, 1, none⟩ = some (.int .i64 0) ∧ U.frozen? ⟨wr.heap.size, 0, none⟩ = false ∧ U.frozen? ⟨wr.heap.size, 1, none⟩ = false ∧
      Below wr.heap.size wr ((U.setCell ⟨wr.heap.size, 0, none⟩ (.int .i64 x.1)).setCell ⟨wr.heap.size, 1, none⟩ (.int .i64 x.2)) ∧ wr.heap.size ≤ U.heap.size := by
  have hl : wr.heap.size < W1.heap.size := (Array.getElem?_eq_some_iff.1 h).1
  have h2 := (K.block _ hl).trans h
  have k2 : Below wr.heap.size wr U := K1.trans (K.mono (by omega))
  exact ⟨cell_of_row U _ 0 _ _ _ h2, cell_of_row U _ 1 _ _ _ h2, frozen_of_row U _ 0 _ _ h2, frozen_of_row U _ 1 _ _ h2, (k2.setCell (p := ⟨wr.heap.size, 0, none⟩) (Nat.le_refl _) _).setCell (p := ⟨wr.heap.size, 1, none⟩) (Nat.le_refl _) _, k2.size⟩

/-- two lists as one -/
def mrg {α : Type} (f : α → α → Int) : List α → List α → List α
  | [], ys => ys
  | x :: xs, [] => x :: xs
  | x :: xs, y :: ys => if f y x < 0 then y :: mrg f (x :: xs) ys else x :: mrg f xs (y :: ys)
termination_by xs ys => xs.length + ys.length
theorem mrg_nil {α : Type} (f : α → α → Int) (xs : List α) : mrg f xs [] = xs := by cases xs <;> simp [mrg]
theorem mrg_len {α : Type} (f : α → α → Int) (xs ys : List α) : (mrg f xs ys).length = xs.length + ys.length := by
  fun_induction mrg f xs ys with
  | case1 ys => simp
  | case2 x xs => simp
  | case3 x xs y ys h ih => simp [ih]; omega
  | case4 x xs y ys h ih => simp [ih]; omega
theorem mrg_b {α : Type} {f : α → α → Int} {xs ys : List α} {i j : Nat} {y : α} (hi : ¬ i < xs.length) (hj : j < ys.length) (hy : ys[j] = y) : mrg f (xs.drop i) (ys.drop j) = y :: mrg f (xs.drop i) (ys.drop (j + 1)) := by
  rw [List.drop_eq_nil_of_le (by omega), List.drop_eq_getElem_cons hj, hy]
  simp [mrg]
theorem mrg_a {α : Type} {f : α → α → Int} {xs ys : List α} {i j : Nat} {x : α} (hi : i < xs.length) (hj : ¬ j < ys.length) (hx : xs[i] = x) : mrg f (xs.drop i) (ys.drop j) = x :: mrg f (xs.drop (i + 1)) (ys.drop j) := by
  rw [show ys.drop j = [] from List.drop_eq_nil_of_le (by omega), List.drop_eq_getElem_cons hi, hx]
  simp [mrg_nil]
theorem mrg_lt {α : Type} {f : α → α → Int} {xs ys : List α} {i j : Nat} {x y : α} (hi : i < xs.length) (hj : j < ys.length) (hx : xs[i] = x) (hy : ys[j] = y) (h : f ys[j] xs[i] < 0) : mrg f (xs.drop i) (ys.drop j) = y :: mrg f (xs.drop i) (ys.drop (j + 1)) := by
  rw [List.drop_eq_getElem_cons hi, List.drop_eq_getElem_cons hj, mrg, if_pos h, hy]
theorem mrg_ge {α : Type} {f : α → α → Int} {xs ys : List α} {i j : Nat} {x y : α} (hi : i < xs.length) (hj : j < ys.length) (hx : xs[i] = x) (hy : ys[j] = y) (h : 0 ≤ f ys[j] xs[i]) : mrg f (xs.drop i) (ys.drop j) = x :: mrg f (xs.drop (i + 1)) (ys.drop j) := by
  rw [List.drop_eq_getElem_cons hi, List.drop_eq_getElem_cons hj, mrg, if_neg (Int.not_lt.2 h), hx]

end Go.Proofs.Ytboikfcmbfaaeaa

namespace Go.Proofs.Ytboikfcmbfaaeaa
open Go.RowKit Go.Shelf
set_option linter.unusedVariables false
attribute [local go_sem] Oper.semAt_some

set_option maxRecDepth 100000 in
set_option maxHeartbeats 1000000 in
theorem itmerged_any {w : World} {ao bo : Option Addr} {la ca lb cb g : Nat} {cs : Array Value} : Calls Try.prog 32 #[.slice ao la ca, .slice bo lb cb, .func (.func g) #[] cs] w fun e w' => e = .returned (.func (.func 38) #[] #[.pointer (some ⟨w.heap.size, 0, none⟩), .pointer (some ⟨w.heap.size + 1, 0, none⟩), .pointer (some ⟨w.heap.size + 2, 0, none⟩)]) ∧ w' = ((w.alloc (.cells #[.slice ao la ca] 22)).alloc (.cells #[.slice bo lb cb] 22)).alloc (.cells #[.func (.func g) #[] cs] 30) := by
  go_enter Try.func32, Try.ntmps32
  go_wp2
  go_ret
  exact ⟨rfl, rfl⟩

set_option maxRecDepth 100000 in
set_option maxHeartbeats 8000000 in
theorem itmerged1_in {n l Ba Bb Bc n₀ N : Nat} {X : Nat → Prop} {I : World → Prop} {w : World} {va vb cv : Value} {xs ys : List It} {f : It → It → Int} (hn : 1 ≤ n)
    (bA : Boxed w Ba 22 va) (bB : Boxed w Bb 22 vb) (bC : Boxed w Bc 30 cv) (lA : Ba < n₀ ∧ ¬ X Ba) (lB : Bb < n₀ ∧ ¬ X Bb) (lC : Bc < n₀ ∧ ¬ X Bc)
    (ha : ItRd (fun g => g < n₀ ∧ ¬ X g) w va xs) (hb : ItRd (fun g => g < n₀ ∧ ¬ X g) w vb ys) (hc : CmpIs I cv f) (hIw : I w) (hI : ∀ W W', I W → BelX X n₀ W W' → I W') (hw : n₀ ≤ w.heap.size) (hN : xs.length + ys.length ≤ N) (hx : xs.length ≤ 4611686018427387903) (hy : ys.length ≤ 4611686018427387903)
    (J Jx : List It → World → Prop) (hY : ∀ pre x W, J pre W → pre.length < N → YieldAt Fence.wide (n - 1) Try.prog l (itEncs x) W fun e W' =>
      (e = .returned (.bool true) ∧ J (pre ++ [x]) W' ∧ BelX X n₀ W W') ∨ (e = .returned (.bool false) ∧ Jx (pre ++ [x]) W'))
    (W : World) (hJ : AbidesFrom W.heap.size J) (hW : Below w.heap.size w W) (h0 : J [] W) :
    CallsIn Fence.wide n Try.prog 38 #[.func (.yield l) #[] #[], .pointer (some ⟨Ba, 0, none⟩), .pointer (some ⟨Bb, 0, none⟩), .pointer (some ⟨Bc, 0, none⟩)] W fun e W' => (∃ v, e = .returned v) ∧
      ((∃ zs, zs = mrg f xs ys ∧ J zs W') ∨ (∃ pre, pre <+: mrg f xs ys ∧ Jx pre W')) := by
  obtain ⟨cg, cl, rfl, eg, hcall⟩ := hc.val
  obtain ⟨ao, ca, rfl, hac, ham, hacl⟩ := ha
  obtain ⟨bo, cb, rfl, hbc, hbm, hbcl⟩ := hb
  unfold maxLen at ham hbm
  have RA := hide hacl
  have RB := hide hbcl
  have HC := hide hcall
  have HY := hide hY
  have HII := hide hI
  have HIw := hide hIw
  have HJ := hide hJ
  have BA := hide bA
  have BB := hide bB
  have BC := hide bC
  clear hacl hbcl hcall hY hI hIw hJ bA bB bC hc
  obtain ⟨Z, hZ⟩ : ∃ Z, mrg f xs ys = Z := ⟨_, rfl⟩
  rw [hZ]
  have HZ := hide hZ
  clear hZ
  refine callsIn_of_wp Try.func38 rfl trivial ?_ rfl
  simp only [Try.ntmps38, List.size_toArray, List.length_cons, List.length_nil, Nat.reduceAdd, Nat.reduceSub, Array.replicate_succ, Array.replicate_zero, List.push_toArray, List.append_toArray, List.nil_append, List.cons_append]
  gi_wp2
  gi_loopw [5, 6] (fun p q wr => ∃ (i j : Nat) (pre : List It), p = .int .i64 i ∧ q = .int .i64 j ∧ i ≤ xs.length ∧ j ≤ ys.length ∧ Hid (pre ++ mrg f (xs.drop i) (ys.drop j) = Z) ∧ pre.length = i + j ∧ Hid (BelX X n₀ w wr) ∧ W.heap.size ≤ wr.heap.size ∧ J pre wr)
    (fun p q _ => xs.length + ys.length - ((intOf p).toNat + (intOf q).toNat))
  case atStart => exact ⟨0, 0, [], rfl, rfl, by omega, by omega, hide (by simpa using HZ.out), rfl, hide (BelX.of hW hw), Nat.le_refl _, h0⟩
  case round =>
    obtain ⟨i, j, pre, rfl, rfl, hi, hj, hpre, hpl, hB, hWr, hJw⟩ := hrel
    have bA := hB.out.boxed BA.out lA.1 lA.2
    have bB := hB.out.boxed BB.out lB.1 lB.2
    have bC := hB.out.boxed BC.out lC.1 lC.2
    have cA := bA.cell
    have cB := bB.cell
    have cC := bC.cell
    by_cases hi1 : i < xs.length
    · by_cases hj1 : j < ys.length
      · skip
        by_cases hf : f ys[j] xs[i] < 0
        · skip
          have q1 : (i : Int) < (xs.length : Int) := by omega
          have d1 : decide ((i : Int) < (xs.length : Int)) = true := by simp; omega
          have e1 : ((i : Int) == (xs.length : Int)) = false := by simp; omega
          obtain ⟨ga, oa, rfl, Ga, la, ia⟩ := RA.out (by omega)
          obtain ⟨⟨x1, x2⟩, hxi⟩ : ∃ x, xs[i] = x := ⟨_, rfl⟩
          have IA := hide (ia i hi1)
          rw [hxi] at IA
          clear ia
          have q2 : (j : Int) < (ys.length : Int) := by omega
          have d2 : decide ((j : Int) < (ys.length : Int)) = true := by simp; omega
          obtain ⟨gb, ob, rfl, Gb, lb, ib⟩ := RB.out (by omega)
          obtain ⟨⟨y1, y2⟩, hyj⟩ : ∃ y, ys[j] = y := ⟨_, rfl⟩
          have IB := hide (ib j hj1)
          rw [hyj] at IB
          clear ib
          have hf' := hf
          rw [hxi, hyj] at hf'
          obtain ⟨fv, hfv⟩ : ∃ fv, f (y1, y2) (x1, x2) = fv := ⟨_, rfl⟩
          rw [hfv] at hf'
          have HFV := hide hfv
          clear hfv
          have d3 : decide (fv < 0) = true := by simpa using hf'
          have HF := hide hf
          clear hf
          gi_wp2
          obtain ⟨W1, hW1⟩ : ∃ W1, wr.alloc (.cells #[.int .i64 0, .int .i64 0] 29) = W1 := ⟨_, rfl⟩
          have K1 : Below wr.heap.size wr W1 := by rw [← hW1]; exact (Below.refl _ wr).alloc (Nat.le_refl _) _
          have hx0 : Hid (W1.heap[wr.heap.size]? = some (.cells #[.int .i64 0, .int .i64 0] 29 (0, 0))) := by rw [← hW1]; exact World.alloc_heap_new wr _
          rw [hW1]
          clear hW1 cA cB cC
          have B1 : Hid (BelX X n₀ w W1) := hide (hB.out.trans (BelX.of K1 (Nat.le_trans hw hB.out.size)))
          have WC : Hid (∀ (U : World), Below W1.heap.size W1 U → ∀ (p : Addr), p.block < n₀ ∧ ¬ X p.block → U.cell? p = w.cell? p) := hide (fun U k p hp => (B1.out.trans (BelX.of k (Nat.le_trans hw B1.out.size))).cell hp.1 hp.2)
          have CF : Hid (∀ U, Below W1.heap.size W1 U → U.cell? ⟨Ba, 0, none⟩ = some (.slice (some ⟨ga, oa, none⟩) xs.length ca) ∧ U.cell? ⟨Bb, 0, none⟩ = some (.slice (some ⟨gb, ob, none⟩) ys.length cb) ∧ U.cell? ⟨Bc, 0, none⟩ = some (.func (.func cg) #[] cl) ∧ U.cell? ⟨ga, oa + i * 2, none⟩ = some (.int .i64 x1) ∧ U.cell? ⟨ga, oa + i * 2 + 1, none⟩ = some (.int .i64 x2) ∧ U.cell? ⟨gb, ob + j * 2, none⟩ = some (.int .i64 y1) ∧ U.cell? ⟨gb, ob + j * 2 + 1, none⟩ = some (.int .i64 y2)) := hide (fun U k => ⟨(WC.out U k ⟨Ba, 0, none⟩ lA).trans BA.out.cell, (WC.out U k ⟨Bb, 0, none⟩ lB).trans BB.out.cell, (WC.out U k ⟨Bc, 0, none⟩ lC).trans BC.out.cell, (WC.out U k ⟨ga, _, none⟩ Ga).trans IA.out.1, (WC.out U k ⟨ga, _, none⟩ Ga).trans IA.out.2, (WC.out U k ⟨gb, _, none⟩ Gb).trans IB.out.1, (WC.out U k ⟨gb, _, none⟩ Gb).trans IB.out.2⟩)
          refine wpIn_wide.2 ?_
          have K : Below W1.heap.size W1 W1.drew := (Below.refl _ _).drew
          first | go_region_held3 (fun u => u.cell? ⟨Ba, 0, none⟩ = some (.slice (some ⟨ga, oa, none⟩) xs.length ca) ∧ u.cell? ⟨Bb, 0, none⟩ = some (.slice (some ⟨gb, ob, none⟩) ys.length cb) ∧ u.cell? ⟨Bc, 0, none⟩ = some (.func (.func cg) #[] cl) ∧ u.cell? ⟨ga, oa + i * 2, none⟩ = some (.int .i64 x1) ∧ u.cell? ⟨ga, oa + i * 2 + 1, none⟩ = some (.int .i64 x2) ∧ u.cell? ⟨gb, ob + j * 2, none⟩ = some (.int .i64 y1) ∧ u.cell? ⟨gb, ob + j * 2 + 1, none⟩ = some (.int .i64 y2))
            (first | with_reducible exact CF.out _ K | go_keep)
            (first | (go_at_fn cg; (with_reducible refine (HC.out _ (y1, y2) (x1, x2) (HII.out _ _ HIw.out (B1.out.trans (BelX.of K (Nat.le_trans hw B1.out.size))))).mono ?_); rintro e w8 ⟨rfl, hb⟩; rw [HFV.out]; replace K := K.trans (hb.mono K.size); clear hb)) | fail "region"
          obtain ⟨f0, f1, f2, f3, f4, f5, f6⟩ := CF.out _ K
          obtain ⟨hc0, hc1, hf0, hf1, HU, HS⟩ := item_new hx0.out K K1 (y1, y2)
          have Jp := HJ.out pre wr _ none hJw (ograwn HU) (fun r e => by cases e)
          obtain ⟨fn, tmps, assign, body, hy, hR⟩ := HY.out pre (y1, y2) _ Jp (by omega)
          dsimp only [itEncs, itV] at hy
          have HU := hide HU
          clear K K1 CF WC B1 hx0
          gi_wp2
          refine hR.mono ?_
          rintro e W3 (⟨rfl, hJ3, hk3⟩ | ⟨rfl, hJx3⟩)
          · have hB3 := hide (hB.out.trans ((BelX.of HU.out (Nat.le_trans hw hB.out.size)).trans hk3))
            have hs3 := Nat.le_trans hWr (Nat.le_trans HU.out.size hk3.size)
            gi_wp2
            go_roundw
            case rel => exact ⟨i, j + 1, _, rfl, by simp, by omega, by omega, hide (by rw [← hpre.out, mrg_lt hi1 hj1 hxi hyj HF.out]; simp), by simp; omega, hB3, hs3, hJ3⟩
            case measure => simp [intOf]; omega
          · gi_wp2
            refine bodyPost_ret (results_none rfl _ _ _) rfl ?_
            refine ⟨⟨_, rfl⟩, .inr ⟨_, ?_, hJx3⟩⟩
            rw [← hpre.out, mrg_lt hi1 hj1 hxi hyj HF.out]
            exact ⟨mrg f (xs.drop i) (ys.drop (j + 1)), by simp⟩
        · skip
          have q1 : (i : Int) < (xs.length : Int) := by omega
          have d1 : decide ((i : Int) < (xs.length : Int)) = true := by simp; omega
          have e1 : ((i : Int) == (xs.length : Int)) = false := by simp; omega
          obtain ⟨ga, oa, rfl, Ga, la, ia⟩ := RA.out (by omega)
          obtain ⟨⟨x1, x2⟩, hxi⟩ : ∃ x, xs[i] = x := ⟨_, rfl⟩
          have IA := hide (ia i hi1)
          rw [hxi] at IA
          clear ia
          have q2 : (j : Int) < (ys.length : Int) := by omega
          have d2 : decide ((j : Int) < (ys.length : Int)) = true := by simp; omega
          obtain ⟨gb, ob, rfl, Gb, lb, ib⟩ := RB.out (by omega)
          obtain ⟨⟨y1, y2⟩, hyj⟩ : ∃ y, ys[j] = y := ⟨_, rfl⟩
          have IB := hide (ib j hj1)
          rw [hyj] at IB
          clear ib
          have hf' := hf
          rw [hxi, hyj] at hf'
          obtain ⟨fv, hfv⟩ : ∃ fv, f (y1, y2) (x1, x2) = fv := ⟨_, rfl⟩
          rw [hfv] at hf'
          have HFV := hide hfv
          clear hfv
          have d3 : decide (fv < 0) = false := by simpa using hf'
          have HF := hide hf
          clear hf
          gi_wp2
          obtain ⟨W1, hW1⟩ : ∃ W1, wr.alloc (.cells #[.int .i64 0, .int .i64 0] 29) = W1 := ⟨_, rfl⟩
          have K1 : Below wr.heap.size wr W1 := by rw [← hW1]; exact (Below.refl _ wr).alloc (Nat.le_refl _) _
          have hx0 : Hid (W1.heap[wr.heap.size]? = some (.cells #[.int .i64 0, .int .i64 0] 29 (0, 0))) := by rw [← hW1]; exact World.alloc_heap_new wr _
          rw [hW1]
          clear hW1 cA cB cC
          have B1 : Hid (BelX X n₀ w W1) := hide (hB.out.trans (BelX.of K1 (Nat.le_trans hw hB.out.size)))
          have WC : Hid (∀ (U : World), Below W1.heap.size W1 U → ∀ (p : Addr), p.block < n₀ ∧ ¬ X p.block → U.cell? p = w.cell? p) := hide (fun U k p hp => (B1.out.trans (BelX.of k (Nat.le_trans hw B1.out.size))).cell hp.1 hp.2)
          have CF : Hid (∀ U, Below W1.heap.size W1 U → U.cell? ⟨Ba, 0, none⟩ = some (.slice (some ⟨ga, oa, none⟩) xs.length ca) ∧ U.cell? ⟨Bb, 0, none⟩ = some (.slice (some ⟨gb, ob, none⟩) ys.length cb) ∧ U.cell? ⟨Bc, 0, none⟩ = some (.func (.func cg) #[] cl) ∧ U.cell? ⟨ga, oa + i * 2, none⟩ = some (.int .i64 x1) ∧ U.cell? ⟨ga, oa + i * 2 + 1, none⟩ = some (.int .i64 x2) ∧ U.cell? ⟨gb, ob + j * 2, none⟩ = some (.int .i64 y1) ∧ U.cell? ⟨gb, ob + j * 2 + 1, none⟩ = some (.int .i64 y2)) := hide (fun U k => ⟨(WC.out U k ⟨Ba, 0, none⟩ lA).trans BA.out.cell, (WC.out U k ⟨Bb, 0, none⟩ lB).trans BB.out.cell, (WC.out U k ⟨Bc, 0, none⟩ lC).trans BC.out.cell, (WC.out U k ⟨ga, _, none⟩ Ga).trans IA.out.1, (WC.out U k ⟨ga, _, none⟩ Ga).trans IA.out.2, (WC.out U k ⟨gb, _, none⟩ Gb).trans IB.out.1, (WC.out U k ⟨gb, _, none⟩ Gb).trans IB.out.2⟩)
          refine wpIn_wide.2 ?_
          have K : Below W1.heap.size W1 W1.drew := (Below.refl _ _).drew
          first | go_region_held3 (fun u => u.cell? ⟨Ba, 0, none⟩ = some (.slice (some ⟨ga, oa, none⟩) xs.length ca) ∧ u.cell? ⟨Bb, 0, none⟩ = some (.slice (some ⟨gb, ob, none⟩) ys.length cb) ∧ u.cell? ⟨Bc, 0, none⟩ = some (.func (.func cg) #[] cl) ∧ u.cell? ⟨ga, oa + i * 2, none⟩ = some (.int .i64 x1) ∧ u.cell? ⟨ga, oa + i * 2 + 1, none⟩ = some (.int .i64 x2) ∧ u.cell? ⟨gb, ob + j * 2, none⟩ = some (.int .i64 y1) ∧ u.cell? ⟨gb, ob + j * 2 + 1, none⟩ = some (.int .i64 y2))
            (first | with_reducible exact CF.out _ K | go_keep)
            (first | (go_at_fn cg; (with_reducible refine (HC.out _ (y1, y2) (x1, x2) (HII.out _ _ HIw.out (B1.out.trans (BelX.of K (Nat.le_trans hw B1.out.size))))).mono ?_); rintro e w8 ⟨rfl, hb⟩; rw [HFV.out]; replace K := K.trans (hb.mono K.size); clear hb)) | fail "region"
          obtain ⟨f0, f1, f2, f3, f4, f5, f6⟩ := CF.out _ K
          obtain ⟨hc0, hc1, hf0, hf1, HU, HS⟩ := item_new hx0.out K K1 (x1, x2)
          have Jp := HJ.out pre wr _ none hJw (ograwn HU) (fun r e => by cases e)
          obtain ⟨fn, tmps, assign, body, hy, hR⟩ := HY.out pre (x1, x2) _ Jp (by omega)
          dsimp only [itEncs, itV] at hy
          have HU := hide HU
          clear K K1 CF WC B1 hx0
          gi_wp2
          refine hR.mono ?_
          rintro e W3 (⟨rfl, hJ3, hk3⟩ | ⟨rfl, hJx3⟩)
          · have hB3 := hide (hB.out.trans ((BelX.of HU.out (Nat.le_trans hw hB.out.size)).trans hk3))
            have hs3 := Nat.le_trans hWr (Nat.le_trans HU.out.size hk3.size)
            gi_wp2
            go_roundw
            case rel => exact ⟨i + 1, j, _, by simp, rfl, by omega, by omega, hide (by rw [← hpre.out, mrg_ge hi1 hj1 hxi hyj HF.out]; simp), by simp; omega, hB3, hs3, hJ3⟩
            case measure => simp [intOf]; omega
          · gi_wp2
            refine bodyPost_ret (results_none rfl _ _ _) rfl ?_
            refine ⟨⟨_, rfl⟩, .inr ⟨_, ?_, hJx3⟩⟩
            rw [← hpre.out, mrg_ge hi1 hj1 hxi hyj HF.out]
            exact ⟨mrg f (xs.drop (i + 1)) (ys.drop j), by simp⟩
      · skip
        have q1 : (i : Int) < (xs.length : Int) := by omega
        have d1 : decide ((i : Int) < (xs.length : Int)) = true := by simp; omega
        have e1 : ((i : Int) == (xs.length : Int)) = false := by simp; omega
        obtain ⟨ga, oa, rfl, Ga, la, ia⟩ := RA.out (by omega)
        obtain ⟨⟨x1, x2⟩, hxi⟩ : ∃ x, xs[i] = x := ⟨_, rfl⟩
        have IA := hide (ia i hi1)
        rw [hxi] at IA
        clear ia
        have q2 : ¬ (j : Int) < (ys.length : Int) := by omega
        have d2 : decide ((j : Int) < (ys.length : Int)) = false := by simp; omega
        skip
        gi_wp2
        obtain ⟨W1, hW1⟩ : ∃ W1, wr.alloc (.cells #[.int .i64 0, .int .i64 0] 29) = W1 := ⟨_, rfl⟩
        have K1 : Below wr.heap.size wr W1 := by rw [← hW1]; exact (Below.refl _ wr).alloc (Nat.le_refl _) _
        have hx0 : Hid (W1.heap[wr.heap.size]? = some (.cells #[.int .i64 0, .int .i64 0] 29 (0, 0))) := by rw [← hW1]; exact World.alloc_heap_new wr _
        rw [hW1]
        clear hW1 cA cB cC
        have B1 : Hid (BelX X n₀ w W1) := hide (hB.out.trans (BelX.of K1 (Nat.le_trans hw hB.out.size)))
        have WC : Hid (∀ (U : World), Below W1.heap.size W1 U → ∀ (p : Addr), p.block < n₀ ∧ ¬ X p.block → U.cell? p = w.cell? p) := hide (fun U k p hp => (B1.out.trans (BelX.of k (Nat.le_trans hw B1.out.size))).cell hp.1 hp.2)
        have CF : Hid (∀ U, Below W1.heap.size W1 U → U.cell? ⟨Ba, 0, none⟩ = some (.slice (some ⟨ga, oa, none⟩) xs.length ca) ∧ U.cell? ⟨Bb, 0, none⟩ = some (.slice bo ys.length cb) ∧ U.cell? ⟨Bc, 0, none⟩ = some (.func (.func cg) #[] cl) ∧ U.cell? ⟨ga, oa + i * 2, none⟩ = some (.int .i64 x1) ∧ U.cell? ⟨ga, oa + i * 2 + 1, none⟩ = some (.int .i64 x2)) := hide (fun U k => ⟨(WC.out U k ⟨Ba, 0, none⟩ lA).trans BA.out.cell, (WC.out U k ⟨Bb, 0, none⟩ lB).trans BB.out.cell, (WC.out U k ⟨Bc, 0, none⟩ lC).trans BC.out.cell, (WC.out U k ⟨ga, _, none⟩ Ga).trans IA.out.1, (WC.out U k ⟨ga, _, none⟩ Ga).trans IA.out.2⟩)
        refine wpIn_wide.2 ?_
        obtain ⟨f0, f1, f2, f3, f4⟩ := CF.out W1 (Below.refl _ _)
        go_quiet (fail)
        obtain ⟨w8, hU⟩ : ∃ U, W1.drewN nq = U := ⟨_, rfl⟩
        have K : Below W1.heap.size W1 w8 := by rw [← hU]; exact obel_drewN W1 nq
        rw [hU]
        clear hU f0 f1 f2 f3 f4
        obtain ⟨f0, f1, f2, f3, f4⟩ := CF.out _ K
        obtain ⟨hc0, hc1, hf0, hf1, HU, HS⟩ := item_new hx0.out K K1 (x1, x2)
        have Jp := HJ.out pre wr _ none hJw (ograwn HU) (fun r e => by cases e)
        obtain ⟨fn, tmps, assign, body, hy, hR⟩ := HY.out pre (x1, x2) _ Jp (by omega)
        dsimp only [itEncs, itV] at hy
        have HU := hide HU
        clear K K1 CF WC B1 hx0
        gi_wp2
        refine hR.mono ?_
        rintro e W3 (⟨rfl, hJ3, hk3⟩ | ⟨rfl, hJx3⟩)
        · have hB3 := hide (hB.out.trans ((BelX.of HU.out (Nat.le_trans hw hB.out.size)).trans hk3))
          have hs3 := Nat.le_trans hWr (Nat.le_trans HU.out.size hk3.size)
          gi_wp2
          go_roundw
          case rel => exact ⟨i + 1, j, _, by simp, rfl, by omega, by omega, hide (by rw [← hpre.out, mrg_a hi1 hj1 hxi]; simp), by simp; omega, hB3, hs3, hJ3⟩
          case measure => simp [intOf]; omega
        · gi_wp2
          refine bodyPost_ret (results_none rfl _ _ _) rfl ?_
          refine ⟨⟨_, rfl⟩, .inr ⟨_, ?_, hJx3⟩⟩
          rw [← hpre.out, mrg_a hi1 hj1 hxi]
          exact ⟨mrg f (xs.drop (i + 1)) (ys.drop j), by simp⟩
    · by_cases hj1 : j < ys.length
      · skip
        have q1 : ¬ (i : Int) < (xs.length : Int) := by omega
        have d1 : decide ((i : Int) < (xs.length : Int)) = false := by simp; omega
        have e1 : ((i : Int) == (xs.length : Int)) = true := by simp; omega
        have q2 : (j : Int) < (ys.length : Int) := by omega
        have d2 : decide ((j : Int) < (ys.length : Int)) = true := by simp; omega
        obtain ⟨gb, ob, rfl, Gb, lb, ib⟩ := RB.out (by omega)
        obtain ⟨⟨y1, y2⟩, hyj⟩ : ∃ y, ys[j] = y := ⟨_, rfl⟩
        have IB := hide (ib j hj1)
        rw [hyj] at IB
        clear ib
        skip
        gi_wp2
        obtain ⟨W1, hW1⟩ : ∃ W1, wr.alloc (.cells #[.int .i64 0, .int .i64 0] 29) = W1 := ⟨_, rfl⟩
        have K1 : Below wr.heap.size wr W1 := by rw [← hW1]; exact (Below.refl _ wr).alloc (Nat.le_refl _) _
        have hx0 : Hid (W1.heap[wr.heap.size]? = some (.cells #[.int .i64 0, .int .i64 0] 29 (0, 0))) := by rw [← hW1]; exact World.alloc_heap_new wr _
        rw [hW1]
        clear hW1 cA cB cC
        have B1 : Hid (BelX X n₀ w W1) := hide (hB.out.trans (BelX.of K1 (Nat.le_trans hw hB.out.size)))
        have WC : Hid (∀ (U : World), Below W1.heap.size W1 U → ∀ (p : Addr), p.block < n₀ ∧ ¬ X p.block → U.cell? p = w.cell? p) := hide (fun U k p hp => (B1.out.trans (BelX.of k (Nat.le_trans hw B1.out.size))).cell hp.1 hp.2)
        have CF : Hid (∀ U, Below W1.heap.size W1 U → U.cell? ⟨Ba, 0, none⟩ = some (.slice ao xs.length ca) ∧ U.cell? ⟨Bb, 0, none⟩ = some (.slice (some ⟨gb, ob, none⟩) ys.length cb) ∧ U.cell? ⟨Bc, 0, none⟩ = some (.func (.func cg) #[] cl) ∧ U.cell? ⟨gb, ob + j * 2, none⟩ = some (.int .i64 y1) ∧ U.cell? ⟨gb, ob + j * 2 + 1, none⟩ = some (.int .i64 y2)) := hide (fun U k => ⟨(WC.out U k ⟨Ba, 0, none⟩ lA).trans BA.out.cell, (WC.out U k ⟨Bb, 0, none⟩ lB).trans BB.out.cell, (WC.out U k ⟨Bc, 0, none⟩ lC).trans BC.out.cell, (WC.out U k ⟨gb, _, none⟩ Gb).trans IB.out.1, (WC.out U k ⟨gb, _, none⟩ Gb).trans IB.out.2⟩)
        refine wpIn_wide.2 ?_
        obtain ⟨f0, f1, f2, f3, f4⟩ := CF.out W1 (Below.refl _ _)
        go_quiet (fail)
        obtain ⟨w8, hU⟩ : ∃ U, W1.drewN nq = U := ⟨_, rfl⟩
        have K : Below W1.heap.size W1 w8 := by rw [← hU]; exact obel_drewN W1 nq
        rw [hU]
        clear hU f0 f1 f2 f3 f4
        obtain ⟨f0, f1, f2, f3, f4⟩ := CF.out _ K
        obtain ⟨hc0, hc1, hf0, hf1, HU, HS⟩ := item_new hx0.out K K1 (y1, y2)
        have Jp := HJ.out pre wr _ none hJw (ograwn HU) (fun r e => by cases e)
        obtain ⟨fn, tmps, assign, body, hy, hR⟩ := HY.out pre (y1, y2) _ Jp (by omega)
        dsimp only [itEncs, itV] at hy
        have HU := hide HU
        clear K K1 CF WC B1 hx0
        gi_wp2
        refine hR.mono ?_
        rintro e W3 (⟨rfl, hJ3, hk3⟩ | ⟨rfl, hJx3⟩)
        · have hB3 := hide (hB.out.trans ((BelX.of HU.out (Nat.le_trans hw hB.out.size)).trans hk3))
          have hs3 := Nat.le_trans hWr (Nat.le_trans HU.out.size hk3.size)
          gi_wp2
          go_roundw
          case rel => exact ⟨i, j + 1, _, rfl, by simp, by omega, by omega, hide (by rw [← hpre.out, mrg_b hi1 hj1 hyj]; simp), by simp; omega, hB3, hs3, hJ3⟩
          case measure => simp [intOf]; omega
        · gi_wp2
          refine bodyPost_ret (results_none rfl _ _ _) rfl ?_
          refine ⟨⟨_, rfl⟩, .inr ⟨_, ?_, hJx3⟩⟩
          rw [← hpre.out, mrg_b hi1 hj1 hyj]
          exact ⟨mrg f (xs.drop i) (ys.drop (j + 1)), by simp⟩
      · obtain rfl : i = xs.length := by omega
        obtain rfl : j = ys.length := by omega
        gi_wp2
        go_end0
        exact ⟨⟨_, rfl⟩, .inl ⟨pre, by have := hpre.out; simpa [mrg] using this, hJw⟩⟩

/-- the iterator, over two lists that lie in boxes -/
theorem itmerged_stops {n Ba Bb Bc n₀ : Nat} {X : Nat → Prop} {I : World → Prop} {w : World} {va vb cv : Value} {xs ys : List It} {f : It → It → Int} (hn : 1 ≤ n)
    (bA : Boxed w Ba 22 va) (bB : Boxed w Bb 22 vb) (bC : Boxed w Bc 30 cv) (lA : Ba < n₀ ∧ ¬ X Ba) (lB : Bb < n₀ ∧ ¬ X Bb) (lC : Bc < n₀ ∧ ¬ X Bc)
    (ha : ItRd (fun g => g < n₀ ∧ ¬ X g) w va xs) (hb : ItRd (fun g => g < n₀ ∧ ¬ X g) w vb ys) (hc : CmpIs I cv f) (hIw : I w) (hI : ∀ W W', I W → BelX X n₀ W W' → I W') (hw : n₀ ≤ w.heap.size) (hx : xs.length ≤ 4611686018427387903) (hy : ys.length ≤ 4611686018427387903) :
    SeqStopsK Fence.wide n Try.prog 38 #[.pointer (some ⟨Ba, 0, none⟩), .pointer (some ⟨Bb, 0, none⟩), .pointer (some ⟨Bc, 0, none⟩)] itEncs (BelX X n₀) (fun zs => zs = mrg f xs ys) (fun pre => pre <+: mrg f xs ys) (xs.length + ys.length) w := fun l J Jx W hW hJ _ hY h0 =>
  itmerged1_in hn bA bB bC lA lB lC ha hb hc hIw hI hw (Nat.le_refl _) hx hy J Jx hY W hJ hW h0

end Go.Proofs.Ytboikfcmbfaaeaa

namespace Go.Proofs.Ytboikfcmbfaaeaa
open Go.RowKit Go.Shelf
set_option linter.unusedVariables false

def flat (xs : List It) : List Value := xs.flatMap fun x => [.int .i64 x.1, .int .i64 x.2]
theorem flat_cons (x : It) (xs : List It) : flat (x :: xs) = .int .i64 x.1 :: .int .i64 x.2 :: flat xs := rfl
theorem flat_len (xs : List It) : (flat xs).length = xs.length * 2 := by
  induction xs with
  | nil => rfl
  | cons x xs ih => rw [flat_cons, List.length_cons, List.length_cons, ih, List.length_cons]; omega
theorem flat_append (xs ys : List It) : flat (xs ++ ys) = flat xs ++ flat ys := by simp [flat]
theorem flat_get (xs : List It) (i : Nat) (h : i < xs.length) : (flat xs)[i * 2]? = some (.int .i64 xs[i].1) ∧ (flat xs)[i * 2 + 1]? = some (.int .i64 xs[i].2) := by
  induction xs generalizing i with
  | nil => simp at h
  | cons x xs ih =>
    rw [flat_cons]
    cases i with
    | zero => simp
    | succ i =>
      have := ih i (by simpa using h)
      rw [show (i + 1) * 2 = i * 2 + 1 + 1 by omega]
      simpa using this
theorem flat_set (xs : List It) (i : Nat) (h : i < xs.length) (x : It) : ((flat xs).set (i * 2) (.int .i64 x.1)).set (i * 2 + 1) (.int .i64 x.2) = flat (xs.set i x) := by
  induction xs generalizing i with
  | nil => simp at h
  | cons y xs ih =>
    cases i with
    | zero => simp [flat_cons]
    | succ i =>
      rw [flat_cons, List.set_cons_succ, flat_cons, ← ih i (by simpa using h), show (i + 1) * 2 = i * 2 + 1 + 1 by omega]
      simp
/-- a block of items, all of it known -/
def ItRow (w : World) (g : Nat) (xs : List It) : Prop := w.heap[g]? = some (.cells (flat xs).toArray 29 (0, 0))
theorem ItRow.lt {w : World} {g : Nat} {xs : List It} (h : ItRow w g xs) : g < w.heap.size := (Array.getElem?_eq_some_iff.1 h).1
theorem ItRow.cell {w : World} {g : Nat} {xs : List It} (h : ItRow w g xs) {i : Nat} (hi : i < xs.length) : w.cell? ⟨g, i * 2, none⟩ = some (.int .i64 xs[i].1) ∧ w.cell? ⟨g, i * 2 + 1, none⟩ = some (.int .i64 xs[i].2) := by
  have q := flat_get xs i hi
  constructor
  · rw [cell_of_row w g (i * 2) _ _ _ h]; simpa using q.1
  · rw [cell_of_row w g (i * 2 + 1) _ _ _ h]; simpa using q.2
theorem ItRow.frozen {w : World} {g : Nat} {xs : List It} (h : ItRow w g xs) (i : Nat) : w.frozen? ⟨g, i, none⟩ = false := frozen_of_row w g i _ _ h
theorem ItRow.set {w : World} {g : Nat} {xs : List It} (h : ItRow w g xs) {i : Nat} (hi : i < xs.length) (x : It) : ItRow ((w.setCell ⟨g, i * 2, none⟩ (.int .i64 x.1)).setCell ⟨g, i * 2 + 1, none⟩ (.int .i64 x.2)) g (xs.set i x) := by
  unfold ItRow
  rw [heap_setCell_same _ g _ _ _ _ (heap_setCell_same w g (i * 2) _ _ _ h), ← flat_set xs i hi x]
  simp
theorem ItRow.keep {w w' : World} {g : Nat} {xs : List It} (h : ItRow w g xs) (e : w'.heap[g]? = w.heap[g]?) : ItRow w' g xs := e.trans h
theorem ItRow.rd {w : World} {g c : Nat} {xs : List It} (h : ItRow w g xs) {G : Nat → Prop} (hG : G g) (h1 : xs.length ≤ c) (h2 : c ≤ maxLen) : ItRd G w (.slice (some ⟨g, 0, none⟩) xs.length c) xs :=
  ⟨_, c, rfl, h1, h2, fun _ => ⟨g, 0, rfl, hG, h.lt, fun i hi => by simpa using h.cell hi⟩⟩

/-- each two runs of s as one -/
def runs {α : Type} (f : α → α → Int) (s : Nat) (xs : List α) : List α :=
  if h : xs = [] ∨ s = 0 then xs else mrg f (xs.take s) ((xs.drop s).take s) ++ runs f s (xs.drop (2 * s))
termination_by xs.length
decreasing_by
  have : 0 < xs.length := List.length_pos_iff.2 (fun e => h (.inl e))
  rw [List.length_drop]
  omega
theorem runs_nil {α : Type} (f : α → α → Int) (s : Nat) : runs f s [] = [] := by rw [runs]; simp
theorem runs_step {α : Type} (f : α → α → Int) {s : Nat} (hs : 0 < s) {xs : List α} (h : xs ≠ []) : runs f s xs = mrg f (xs.take s) ((xs.drop s).take s) ++ runs f s (xs.drop (2 * s)) := by
  rw [runs, dif_neg (by rintro (h' | h'); exact h h'; omega)]
theorem runs_len {α : Type} (f : α → α → Int) (s : Nat) (xs : List α) : (runs f s xs).length = xs.length := by
  fun_induction runs f s xs with
  | case1 xs h => rfl
  | case2 xs h ih => rw [List.length_append, ih, mrg_len]; simp; omega

theorem sub_rd {w U : World} {gi ga oa ca k M : Nat} {xs ys : List It} {G : Nat → Prop} (ia : ItIn w ga oa xs) (hB : BelX (fun k => k = gi) w.heap.size w U) (ga1 : ga ≠ gi) (ga2 : ga < w.heap.size) (hG : G ga) (hl : ys.length = M - k) (hk : k ≤ M) (hM : M ≤ xs.length) (hg : ∀ i, i < M - k → ys[i]? = xs[k + i]?) (hc : M ≤ ca) (hcm : ca ≤ maxLen) :
    ItRd G U (.slice (some ⟨ga, oa + k * 2, none⟩) (M - k) (ca - k)) ys := by
  refine ⟨_, ca - k, by rw [hl], by omega, by omega, fun hp => ⟨ga, _, rfl, hG, Nat.lt_of_lt_of_le ga2 hB.size, fun i hi => ?_⟩⟩
  have e := hg i (by omega)
  rw [List.getElem?_eq_getElem hi, List.getElem?_eq_getElem (by omega)] at e
  injection e with e
  have q := ia (k + i) (by omega)
  rw [e, show oa + k * 2 + i * 2 = oa + (k + i) * 2 by omega]
  exact ⟨(hB.cell (p := ⟨ga, _, none⟩) ga2 ga1).trans q.1, (hB.cell (p := ⟨ga, _, none⟩) ga2 ga1).trans q.2⟩
theorem nil_rd {U : World} {ao : Option Addr} {n c : Nat} {ys : List It} {G : Nat → Prop} (hn : n = 0) (hy : ys = []) (hc : c ≤ maxLen) : ItRd G U (.slice ao n c) ys := by
  subst hn hy
  exact ⟨ao, c, rfl, Nat.zero_le _, hc, fun h => absurd h (by simp)⟩
theorem run_a {α : Type} (xs : List α) {k s M : Nat} (hM : M = min (k + s) xs.length) (i : Nat) (h : i < M - k) : ((xs.drop k).take s)[i]? = xs[k + i]? := by
  rw [List.getElem?_take_of_lt (by omega), List.getElem?_drop]
theorem run_b {α : Type} (xs : List α) {k s M E : Nat} (hM : M = min (k + s) xs.length) (hE : E = min (M + s) xs.length) (i : Nat) (h : i < E - M) : (((xs.drop k).drop s).take s)[i]? = xs[M + i]? := by
  rw [List.getElem?_take_of_lt (by omega), List.getElem?_drop, List.getElem?_drop, ← Nat.add_assoc, show k + s = M by omega]
theorem run_al {α : Type} (xs : List α) {k s M : Nat} (hM : M = min (k + s) xs.length) : ((xs.drop k).take s).length = M - k := by
  rw [List.length_take, List.length_drop]; omega
theorem run_bl {α : Type} (xs : List α) {k s M E : Nat} (hM : M = min (k + s) xs.length) (hE : E = min (M + s) xs.length) : (((xs.drop k).drop s).take s).length = E - M := by
  rw [List.length_take, List.length_drop, List.length_drop]; omega
theorem run_next {α : Type} (f : α → α → Int) {xs : List α} {k s M E : Nat} (hs : 0 < s) (hk : k < xs.length) (hM : M = min (k + s) xs.length) (hE : E = min (M + s) xs.length) : runs f s (xs.drop k) = mrg f ((xs.drop k).take s) (((xs.drop k).drop s).take s) ++ runs f s (xs.drop E) := by
  rw [runs_step f hs (by intro e; have := congrArg List.length e; rw [List.length_drop] at this; simp at this; omega)]
  congr 2
  rw [List.drop_drop]
  by_cases h : k + 2 * s ≤ xs.length
  · congr 1; omega
  · rw [List.drop_eq_nil_of_le (by omega), List.drop_eq_nil_of_le (by omega)]
theorem take_set_next {α : Type} {zs dn : List α} {m : Nat} {x : α} (hm : m < zs.length) (h : zs.take m = dn) : (zs.set m x).take (m + 1) = dn ++ [x] := by
  rw [List.take_add_one, List.take_set_of_le (Nat.le_refl _), h]
  simp [hm]

def mark (D : Nat) : Deferred := { target := .collected D, args := #[] }
/-- the marks of the loops behind us, taken one by one -/
theorem marks_leave {F : Fence} {n : Nat} {P : Program} {fn : Func} {tmps : Array Value} {R : Ending → World → Prop} {A : Nat} {Inv : World → Prop}
    (hI : ∀ w D, Inv w → A ≤ D → w.heap[D]? = some (.deferred (some [])) → Inv (w.putObj D (.deferred none)))
    (hR : ∀ w, Inv w → ∃ v, (results fn tmps).run P w = .ok v w ∧ R (.returned v) w) :
    ∀ (Ds : List Nat) (w : World), (∀ D ∈ Ds, A ≤ D ∧ w.heap[D]? = some (.deferred (some []))) → Ds.Nodup → Inv w → LeavesInM F n P fn tmps R (Ds.map mark) .returning w := by
  intro Ds
  induction Ds with
  | nil => intro w _ _ hi; exact hR w hi
  | cons D Ds ih =>
    intro w h hd hi
    obtain ⟨hD1, hD2⟩ := h D List.mem_cons_self
    refine ⟨by simp, .inl ⟨D, _, rfl, run_takeDeferred hD2, ih _ ?_ (List.nodup_cons.1 hd).2 (hI w D hi hD1 hD2)⟩⟩
    intro E hE
    obtain ⟨h1, h2⟩ := h E (List.mem_cons_of_mem _ hE)
    have hne : E ≠ D := fun e => (List.nodup_cons.1 hd).1 (e ▸ hE)
    exact ⟨h1, (World.putObj_heap_other (fun e => hne e)).trans h2⟩
theorem marks_more {Ds : List Nat} {D A : Nat} {W W' : World} (h : ∀ D ∈ Ds, A ≤ D ∧ W.heap[D]? = some (.deferred (some []))) (hn : Ds.Nodup) (hB : ∀ E ∈ Ds, W'.heap[E]? = W.heap[E]?) (hD : W'.heap[D]? = some (.deferred (some []))) (h1 : W.heap.size ≤ D) (h2 : A ≤ D) :
    (∀ E ∈ D :: Ds, A ≤ E ∧ W'.heap[E]? = some (.deferred (some []))) ∧ (D :: Ds).Nodup := by
  have hlt : ∀ E ∈ Ds, E < W.heap.size := fun E hE => (Array.getElem?_eq_some_iff.1 (h E hE).2).1
  refine ⟨fun E hE => ?_, List.nodup_cons.2 ⟨fun hE => by have := hlt D hE; omega, hn⟩⟩
  rcases List.mem_cons.1 hE with rfl | hE
  · exact ⟨h2, hD⟩
  · exact ⟨(h E hE).1, (hB E hE).trans (h E hE).2⟩
theorem belx_putObj {X : Nat → Prop} {n : Nat} {W : World} {l : Nat} (o' : Obj) (hl : n ≤ l) : BelX X n W (W.putObj l o') := by
  have h := grownBy_putObj' W l o'
  exact ⟨h.os, h.tape, h.output, h.size, fun k hk _ => World.putObj_heap_other (fun e => by omega)⟩
theorem belx_set {X : Nat → Prop} {n b i : Nat} (W : World) (v : Value) (h : X b) : BelX X n W (W.setCell ⟨b, i, none⟩ v) := by
  have hz := (Below.refl 0 W).setCell (p := ⟨b, i, none⟩) (Nat.zero_le _) v
  exact ⟨hz.os, hz.tape, hz.output, hz.size, fun k _ hk => heap_setCell_other W _ k _ (fun e => hk (e ▸ h))⟩
theorem grown_set2 (w : World) (b i : Nat) (x : Value) : w.grownBy (w.setCell ⟨b, i, none⟩ x) (some b) := by
  have hz := (Below.refl 0 w).setCell (p := ⟨b, i, none⟩) (Nat.zero_le _) x
  exact ⟨hz.os, hz.tape, hz.output, hz.size, fun k _ hk => heap_setCell_other w _ k _ (fun e => hk (by rw [e]))⟩
theorem _root_.Go.World.grownBy.trans2 {a b c : World} {r : Option Nat} (h : a.grownBy b r) (k : b.grownBy c r) : a.grownBy c r :=
  ⟨k.os.trans h.os, k.tape.trans h.tape, k.output.trans h.output, Nat.le_trans h.size k.size, fun i hi hr => (k.block i (Nat.lt_of_lt_of_le hi h.size) hr).trans (h.block i hi hr)⟩

end Go.Proofs.Ytboikfcmbfaaeaa

namespace Go.Proofs.Ytboikfcmbfaaeaa
open Go.RowKit Go.Shelf
set_option linter.unusedVariables false
attribute [local go_sem] Oper.semAt_some

theorem itmerged_box {w : World} {ao bo : Option Addr} {la ca lb cb g : Nat} {cs : Array Value} : Calls Try.prog 32 #[.slice ao la ca, .slice bo lb cb, .func (.func g) #[] cs] w fun e w' => e = .returned (.func (.func 38) #[] #[.pointer (some ⟨w.heap.size, 0, none⟩), .pointer (some ⟨w.heap.size + 1, 0, none⟩), .pointer (some ⟨w.heap.size + 2, 0, none⟩)]) ∧ Boxed w' w.heap.size 22 (.slice ao la ca) ∧ Boxed w' (w.heap.size + 1) 22 (.slice bo lb cb) ∧ Boxed w' (w.heap.size + 2) 30 (.func (.func g) #[] cs) ∧ Below w.heap.size w w' := by
  refine itmerged_any.mono ?_
  rintro e w' ⟨rfl, rfl⟩
  refine ⟨rfl, ((Boxed.new _ _ _).alloc _).alloc _, ?_, ?_, ((((Below.refl _ w).alloc (Nat.le_refl _) _).alloc (by simp) _).alloc (by simp; omega) _)⟩
  · have := (Boxed.new (w.alloc (.cells #[.slice ao la ca] 22)) 22 (.slice bo lb cb)).alloc (.cells #[.func (.func g) #[] cs] 30)
    simpa using this
  · have := Boxed.new ((w.alloc (.cells #[.slice ao la ca] 22)).alloc (.cells #[.slice bo lb cb] 22)) 30 (.func (.func g) #[] cs)
    simpa using this

/-- between two rounds of the inner loop -/
def OI (gi Bt Bi ci n k : Nat) (dn : List It) (w8 : World) (pre : List It) (W : World) : Prop := ∃ zs, ItRow W gi zs ∧ zs.length = n ∧ zs.take (k + pre.length) = dn ++ pre ∧ Boxed W Bt 3 (.int .i64 ((k + pre.length : Nat) : Int)) ∧ Boxed W Bi 22 (.slice (some ⟨gi, 0, none⟩) n ci) ∧ BelX (fun k => k = gi ∨ k = Bt) w8.heap.size w8 W
theorem oi_own {gi Bt Bi ci n k : Nat} {dn : List It} {w8 : World} (h1 : gi < w8.heap.size) (h2 : Bt < w8.heap.size) (h3 : Bi < w8.heap.size) : OwnFrom w8.heap.size (OI gi Bt Bi ci n k dn w8) := by
  rintro pre W W' row ⟨zs, a, b, c, d, e, f⟩ hg hr
  have ne : ∀ r, r < w8.heap.size → some r ≠ row := fun r h e => by have := (hr r e.symm).1; omega
  exact ⟨zs, a.keep (hg.block gi a.lt (ne _ h1)), b, c, d.kept hg (ne _ h2), e.kept hg (ne _ h3), f.trans (BelX.grown hg f.size (fun r e => .inl (hr r e).1))⟩
theorem oi_start {gi Bt Bi ci n k : Nat} {dn zs : List It} {w8 : World} (h : ItRow w8 gi zs) (h1 : zs.length = n) (h2 : zs.take k = dn) (b : Boxed w8 Bt 3 (.int .i64 k)) (c : Boxed w8 Bi 22 (.slice (some ⟨gi, 0, none⟩) n ci)) : OI gi Bt Bi ci n k dn w8 [] w8 := ⟨zs, h, h1, by simpa using h2, b, c, BelX.refl _ _ _⟩

theorem oi_step {gi Bt Bi ci n k m : Nat} {dn : List It} {w8 : World} {pre : List It} {W : World} (h : OI gi Bt Bi ci n k dn w8 pre W) (hm : k + pre.length = m) (hml : m < n) (h1 : Bt ≠ gi) (h2 : Bi ≠ gi) (h3 : Bi ≠ Bt) (x : It) :
    OI gi Bt Bi ci n k dn w8 (pre ++ [x]) (((W.setCell ⟨gi, m * 2, none⟩ (.int .i64 x.1)).setCell ⟨gi, m * 2 + 1, none⟩ (.int .i64 x.2)).setCell ⟨Bt, 0, none⟩ (.int .i64 ((m : Int) + 1))) ∧ BelX (fun k => k = gi ∨ k = Bt) w8.heap.size W (((W.setCell ⟨gi, m * 2, none⟩ (.int .i64 x.1)).setCell ⟨gi, m * 2 + 1, none⟩ (.int .i64 x.2)).setCell ⟨Bt, 0, none⟩ (.int .i64 ((m : Int) + 1))) ∧ KeepsFrom w8.heap.size W (((W.setCell ⟨gi, m * 2, none⟩ (.int .i64 x.1)).setCell ⟨gi, m * 2 + 1, none⟩ (.int .i64 x.2)).setCell ⟨Bt, 0, none⟩ (.int .i64 ((m : Int) + 1))) := by
  obtain ⟨zs, a, b, c, d, e, f⟩ := h
  rw [hm] at c d
  have g1 := ((grown_set2 W gi (m * 2) (.int .i64 x.1)).trans2 (grown_set2 _ gi (m * 2 + 1) (.int .i64 x.2)))
  have bx : BelX (fun k => k = gi ∨ k = Bt) w8.heap.size W (((W.setCell ⟨gi, m * 2, none⟩ (.int .i64 x.1)).setCell ⟨gi, m * 2 + 1, none⟩ (.int .i64 x.2)).setCell ⟨Bt, 0, none⟩ (.int .i64 ((m : Int) + 1))) := ((belx_set _ _ (.inl rfl)).trans (belx_set _ _ (.inl rfl))).trans (belx_set _ _ (.inr rfl))
  refine ⟨⟨zs.set m x, ?_, by rw [List.length_set]; exact b, ?_, ?_, ?_, f.trans bx⟩, bx, (((KeepsOthers.setCell _ _ _).trans (KeepsOthers.setCell _ _ _)).trans (KeepsOthers.setCell _ _ _)).from _⟩
  · exact (a.set (i := m) (by omega) x).keep (heap_setCell_other _ _ _ _ (fun e => h1 e.symm))
  · rw [List.length_append, List.length_singleton, ← Nat.add_assoc, hm, take_set_next (by omega) c, List.append_assoc]
  · have := (d.kept g1 (fun e => h1 (by cases e; rfl))).set (.int .i64 ((m : Int) + 1))
    rw [List.length_append, List.length_singleton, ← Nat.add_assoc, hm]
    simpa using this
  · exact (e.kept g1 (fun e => h2 (by cases e; rfl))).other h3 _

set_option maxRecDepth 100000 in
set_option maxHeartbeats 8000000 in
theorem itruns_any {w : World} {gi ci s : Nat} {va cv : Value} {xs ws : List It} {I : World → Prop} {f : It → It → Int} (hs : 0 < s) (hs2 : s ≤ 1152921504606846976) (hx : xs.length ≤ 1152921504606846976) (hr : ItRow w gi ws) (hw : ws.length = xs.length) (hci : xs.length ≤ ci) (hcm : ci ≤ maxLen)
    (ha : ItRd (fun g => g ≠ gi) w va xs) (hc : CmpIs I cv f) (hIw : I w) (hI : ∀ W W', I W → BelX (fun k => k = gi) w.heap.size W W' → I W') :
    Calls Try.prog 24 #[.slice (some ⟨gi, 0, none⟩) xs.length ci, va, .int .i64 s, cv] w fun e w' => e = .returned (.tuple #[]) ∧ ItRow w' gi (runs f s xs) ∧ BelX (fun k => k = gi) w.heap.size w w' := by
  have hcc := hc
  obtain ⟨cg, cl, rfl, eg, hcall⟩ := hc.val
  have haa := ha
  obtain ⟨ao, ca, rfl, hac, ham, hacl⟩ := ha
  have HA := hide haa
  have HCC := hide hcc
  have HR := hide hr
  have HIw := hide hIw
  have HI := hide hI
  have HACL := hide hacl
  have hgi := hr.lt
  unfold maxLen at hcm ham
  clear hcc hc hcall haa hacl hr hIw hI
  refine (callsIn_wide (n := 4)).1 ?_
  refine callsIn_of_wp_marks Try.func24 rfl trivial ?_ rfl
  simp only [Try.ntmps24, List.size_toArray, List.length_cons, List.length_nil, Nat.reduceAdd, Nat.reduceSub, Array.replicate_succ, Array.replicate_zero, List.push_toArray, List.append_toArray, List.nil_append, List.cons_append]
  refine wpIn_wide.2 ?_
  go_wp2
  refine wp_loop (fun a W => ∃ (k : Nat) (Ds : List Nat) (dn : List It) (zs : List It) (x9 x10 x11 x12 x13 x14 x15 x16 x17 x18 x19 x20 x21 x22 x23 x24 x25 x26 x27 x28 x29 x30 x31 x32 x33 x34 x35 x36 x37 x38 x39 x40 x41 x42 x43 x44 : Value), a = { tmps := #[.slice (some ⟨gi, 0, none⟩) xs.length ci, .slice ao xs.length ca, .int .i64 s, .func (.func cg) #[] cl, .pointer (some ⟨w.heap.size, 0, none⟩), undef, undef, undef, .pointer (some ⟨w.heap.size + 1, 0, none⟩), x9, x10, x11, x12, x13, x14, x15, x16, x17, x18, x19, x20, x21, x22, x23, x24, x25, x26, x27, x28, x29, x30, x31, x32, x33, x34, x35, x36, x37, x38, x39, x40, x41, x42, x43, x44], defers := Ds.map mark } ∧ k ≤ xs.length ∧ dn.length = k ∧ dn ++ runs f s (xs.drop k) = runs f s xs ∧ ItRow W gi zs ∧ zs.length = xs.length ∧ zs.take k = dn ∧ Boxed W w.heap.size 22 (.slice (some ⟨gi, 0, none⟩) xs.length ci) ∧ Boxed W (w.heap.size + 1) 3 (.int .i64 k) ∧ BelX (fun k => k = gi) w.heap.size w W ∧ (∀ D ∈ Ds, w.heap.size + 2 ≤ D ∧ W.heap[D]? = some (.deferred (some []))) ∧ Ds.Nodup) (fun a W => xs.length - (intOf ((W.cell? ⟨w.heap.size + 1, 0, none⟩).getD undef)).toNat) ?_ ?_
  · have bI := (Boxed.new w 22 (.slice (some ⟨gi, 0, none⟩) xs.length ci)).alloc (.cells #[.int .i64 0] 3)
    have bT := Boxed.new (w.alloc (.cells #[.slice (some ⟨gi, 0, none⟩) xs.length ci] 22)) 3 (.int .i64 0)
    have hb2 : Below w.heap.size w ((w.alloc (.cells #[.slice (some ⟨gi, 0, none⟩) xs.length ci] 22)).alloc (.cells #[.int .i64 0] 3)) := ((Below.refl _ w).alloc (Nat.le_refl _) _).alloc (by simp) _
    rw [World.size_alloc] at bT
    exact ⟨0, [], [], ws, undef, undef, undef, undef, undef, undef, undef, undef, undef, undef, undef, undef, undef, undef, undef, undef, undef, undef, undef, undef, undef, undef, undef, undef, undef, undef, undef, undef, undef, undef, undef, undef, undef, undef, undef, undef, rfl, by omega, rfl, by simp, HR.out.keep (hb2.block _ hgi), hw, by simp, bI, bT, BelX.of hb2 (Nat.le_refl _), by simp, by simp⟩
  · rintro a W ⟨k, Ds, dn, zs, x9, x10, x11, x12, x13, x14, x15, x16, x17, x18, x19, x20, x21, x22, x23, x24, x25, x26, x27, x28, x29, x30, x31, x32, x33, x34, x35, x36, x37, x38, x39, x40, x41, x42, x43, x44, rfl, hk, hdl, hdn, hrow, hzl, hzt, bI, bT, hB, hDs, hnd⟩
    have cI := bI.cell
    have cT := bT.cell
    by_cases hkl : k < xs.length
    · have q1 : (k : Int) < (xs.length : Int) := by omega
      have q0 : (k : Int) ≤ (xs.length : Int) := by omega
      obtain ⟨ga, oa, rfl, ga1, ga2, ia⟩ := HACL.out (by omega)
      have IA := hide ia
      clear ia
      have HB := hide hB
      have HROW := hide hrow
      have BI := hide bI
      have HZT := hide hzt
      have HDN := hide hdn
      have HDS := hide hDs
      have n1 : ¬ ca = k := by omega
      clear hB hrow bI hzt hdn hDs cI
      by_cases h1 : k + s < xs.length
      · obtain ⟨M, hM⟩ : ∃ M, M = k + s := ⟨_, rfl⟩
        have e1 : (k : Int) + (s : Int) = (M : Int) := by omega
        have q2 : (M : Int) ≤ (xs.length : Int) := by omega
        have q3 : (k : Int) ≤ (M : Int) := by omega
        have n2 : k ≤ M := by omega
        have n3 : M ≤ ca := by omega
        have HM := hide (show M = min (k + s) xs.length by omega)
        clear hM
        by_cases h2 : M + s ≤ xs.length
        · obtain ⟨E, hE⟩ : ∃ E, E = M + s := ⟨_, rfl⟩
          have e2 : (M : Int) + (s : Int) = (E : Int) := by omega
          have q4 : (E : Int) ≤ (xs.length : Int) := by omega
          have q5 : (M : Int) ≤ (E : Int) := by omega
          have n4 : ¬ ca = M := by omega
          have n5 : M ≤ E := by omega
          have n6 : E ≤ ca := by omega
          have HE := hide (show E = min (M + s) xs.length by omega)
          clear hE h2
          have K : Below W.heap.size W W.drew := (Below.refl _ _).drew
          have HT := hide bT
          have CF := hide (fun U (k' : Below W.heap.size W U) => (k'.cell (p := ⟨w.heap.size + 1, 0, none⟩) HT.out.lt).trans HT.out.cell)
          go_wp2
          first | go_region_held3 (fun u => u.cell? ⟨w.heap.size + 1, 0, none⟩ = some (.int .i64 k))
            (first | with_reducible exact CF.out _ K | go_keep)
            (first | (go_at_call 32; (with_reducible refine itmerged_box.mono ?_); rintro e w8 ⟨rfl, b1, b2, b3, hb⟩; have KX := K; replace K := K.trans (hb.mono K.size); clear hb)) | fail "region"
          have hsz : W.heap.size + 3 ≤ w8.heap.size := by have := b3.lt; simp at this; omega
          have hwW := HB.out.size
          have hbtW := HT.out.lt
          have hB8 : BelX (fun k => k = gi) w.heap.size w w8 := HB.out.trans (BelX.of K hwW)
          have hrow8 : ItRow w8 gi zs := HROW.out.keep (K.block _ HROW.out.lt)
          have bI8 : Boxed w8 w.heap.size 22 (.slice (some ⟨gi, 0, none⟩) xs.length ci) := (K.block _ BI.out.lt).trans BI.out
          have bT8 : Boxed w8 (w.heap.size + 1) 3 (.int .i64 k) := (K.block _ HT.out.lt).trans HT.out
          have RA : ItRd (fun g => g < w8.heap.size ∧ ¬ (g = gi ∨ g = w.heap.size + 1)) w8 (.slice (some ⟨ga, oa + k * 2, none⟩) (M - k) (ca - k)) ((xs.drop k).take s) := sub_rd IA.out hB8 ga1 ga2 ⟨by omega, by omega⟩ (run_al xs HM.out) (by omega) (by omega) (run_a xs HM.out) (by omega) (by unfold maxLen; omega)
          have RB : ItRd (fun g => g < w8.heap.size ∧ ¬ (g = gi ∨ g = w.heap.size + 1)) w8 (.slice (some ⟨ga, oa + M * 2, none⟩) (E - M) (ca - M)) (((xs.drop k).drop s).take s) := sub_rd IA.out hB8 ga1 ga2 ⟨by omega, by omega⟩ (run_bl xs HM.out HE.out) (by omega) (by omega) (run_b xs HM.out HE.out) (by omega) (by unfold maxLen; omega)
          have hI8 := hide (HI.out w w8 HIw.out hB8)
          have hIm := hide (fun (U U' : World) (h : I U) (kk : BelX (fun k => k = gi ∨ k = w.heap.size + 1) w8.heap.size U U') => HI.out U U' h (kk.mono (m := w.heap.size) (by omega) (fun j hj h => h.resolve_right (by omega))))
          have hseq := itmerged_stops (n := 3) (X := (fun k => k = gi ∨ k = w.heap.size + 1)) (n₀ := w8.heap.size) (by omega) b1 b2 b3 ⟨by have := b1.lt; simpa using this, by simp; omega⟩ ⟨by have := b2.lt; simpa using this, by simp; omega⟩ ⟨by have := b3.lt; simpa using this, by simp; omega⟩ RA RB HCC.out hI8.out hIm.out (Nat.le_refl _) (by rw [run_al xs HM.out]; omega) (by rw [run_bl xs HM.out HE.out]; omega)
          obtain ⟨Z, hZ⟩ : ∃ Z, mrg f ((xs.drop k).take s) (((xs.drop k).drop s).take s) = Z := ⟨_, rfl⟩
          have hZl : Z.length = E - k := by rw [← hZ, mrg_len, run_al xs HM.out, run_bl xs HM.out HE.out]; omega
          have hN : ((xs.drop k).take s).length + (((xs.drop k).drop s).take s).length = E - k := by rw [run_al xs HM.out, run_bl xs HM.out HE.out]; omega
          have hnx := run_next f hs hkl HM.out HE.out
          rw [hZ, hN] at hseq
          rw [hZ] at hnx
          have HSEQ := hide hseq
          have HNX := hide hnx
          have HK := hide K
          have HB8 := hide hB8
          clear hseq hnx K hB8 RA RB hZ hN b1 b2 b3 hI8 hIm CF KX
          have hgi8 : gi < w8.heap.size := by omega
          have hbt8 : w.heap.size + 1 < w8.heap.size := by omega
          have hbi8 : w.heap.size < w8.heap.size := by omega
          go_wp2_with fail
          refine (wpIn_wide (n := 4)).1 ?_
          refine' wpIn_rangeFunc_ownH rfl (by omega) (gf := 38) (lb := #[.pointer (some ⟨W.heap.size, 0, none⟩), .pointer (some ⟨W.heap.size + 1, 0, none⟩), .pointer (some ⟨W.heap.size + 2, 0, none⟩)]) (by simp [go_sem]) trivial (enters_of Try.func38 (by kernel_rfl) rfl)
            HSEQ.out BelX.trans (fun W l o o' hl _ _ _ => belx_putObj o' hl) (Below.refl _ _) (fun _ => rfl)
            (fun pre W' => OI gi (w.heap.size + 1) w.heap.size ci xs.length k dn w8 pre W')
            (fun _ _ _ => False) (oi_own (by omega) (by omega) (by omega)) (fun _ _ _ _ _ hs _ _ => hs) (oi_start hrow8 hzl HZT.out bT8 bI8)
            (fun x a' W' => ∃ Bx, w8.heap.size ≤ Bx ∧ W'.heap[Bx]? = some (.cells #[.int .i64 x.1, .int .i64 x.2] 29 (0, 0)) ∧ a' = { tmps := #[.slice (some ⟨gi, 0, none⟩) xs.length ci, .slice (some ⟨ga, oa, none⟩) xs.length ca, .int .i64 s, .func (.func cg) #[] cl, .pointer (some ⟨w.heap.size, 0, none⟩), undef, undef, undef, .pointer (some ⟨w.heap.size + 1, 0, none⟩), .int .i64 M, .int .i64 E, .pointer (some ⟨Bx, 0, none⟩), .int .i64 k, .slice (some ⟨ga, oa, none⟩) xs.length ca, .int .i64 xs.length, .bool true, .int .i64 k, .int .i64 s, .int .i64 (M), .slice (some ⟨ga, oa, none⟩) xs.length ca, .int .i64 xs.length, .int .i64 M, .int .i64 M, .int .i64 s, .int .i64 (E), .slice (some ⟨ga, oa, none⟩) xs.length ca, .int .i64 xs.length, .int .i64 E, .slice (some ⟨ga, oa, none⟩) xs.length ca, .int .i64 k, .int .i64 M, .slice (some ⟨ga, oa + k * 2, none⟩) (M - k) (ca - k), .slice (some ⟨ga, oa, none⟩) xs.length ca, .int .i64 M, .int .i64 E, .slice (some ⟨ga, oa + M * 2, none⟩) (E - M) (ca - M), .func (.func cg) #[] cl, .func (.func 38) #[] #[.pointer (some ⟨W.heap.size, 0, none⟩), .pointer (some ⟨W.heap.size + 1, 0, none⟩), .pointer (some ⟨W.heap.size + 2, 0, none⟩)], itV x, x39, x40, x41, x42, x43, x44], defers := [] }) ?hAx ?hassign ?hbody ?hdone ?hstop
          case hAx =>
            rintro x a' u X Y row ⟨Bx, h1, h2, h3⟩ hg hr
            exact ⟨Bx, h1, (hg.block Bx (Array.getElem?_eq_some_iff.1 h2).1 (fun e => by obtain ⟨_, o, ho, hc⟩ := hr Bx e.symm; rw [h2] at ho; cases ho; cases hc)).trans h2, h3⟩
          case hassign =>
            rintro l pre x W' K hi hK
            gi_wp2
            have hs8 := hi.choose_spec.2.2.2.2.2.size
            exact hK _ _ ((KeepsOthers.alloc _ _).from _) (BelX.of ((Below.refl _ W').alloc (Nat.le_refl _) _) hs8) (oi_own hgi8 hbt8 hbi8 pre W' _ none hi (World.grownBy_alloc _ _ none) (fun r e => by cases e)) ⟨W'.heap.size, hs8, World.alloc_heap_new W' _, rfl⟩
          case hbody =>
            rintro l pre x a' W' hl hr ⟨zs', r1, r2, r3, r4, r5, r6⟩ ⟨Bx, hBx, hx0, rfl⟩ hlt
            have c4 := r4.cell
            have c5 := r5.cell
            have f4 := r4.frozen
            obtain ⟨m, hm⟩ : ∃ m, k + pre.length = m := ⟨_, rfl⟩
            rw [hm] at c4 r3 r4
            have hml : m < xs.length := by omega
            have q6 : (m : Int) < (xs.length : Int) := by omega
            have fz0 := r1.frozen (m * 2)
            have fz1 := r1.frozen (m * 2 + 1)
            obtain ⟨cz0, cz1⟩ := r1.cell (i := m) (by omega)
            have cx0 := cell_of_row W' _ 0 _ _ _ hx0
            have cx1 := cell_of_row W' _ 1 _ _ _ hx0
            obtain ⟨x1, x2⟩ := x
            simp at cx0 cx1
            have HR1 := hide r1
            have HR3 := hide r3
            have HR4 := hide r4
            have HR5 := hide r5
            have HR6 := hide r6
            have HMM := hide hm
            have HX0 := hide hx0; clear hx0; clear r1 r3 r4 r5 r6 hm
            have HOI := hide (oi_step ⟨zs', HR1.out, r2, by rw [HMM.out]; exact HR3.out, by rw [HMM.out]; exact HR4.out, HR5.out, HR6.out⟩ HMM.out hml (by omega) (by omega) (by omega) (x1, x2))
            gi_wp2
            exact ⟨HOI.out.2.2, HOI.out.2.1, HOI.out.1⟩
          case hdone =>
            rintro D ys W' hD rfl ⟨zs', r1, r2, r3, r4, r5, r6⟩ hK
            have hkE : k + ys.length = E := by omega
            rw [hkE] at r3 r4
            have HX := hide (marks_more HDS.out hnd (fun F hF => (r6.block F (by have := (Array.getElem?_eq_some_iff.1 (HDS.out F hF).2).1; omega) (by have := (HDS.out F hF).1; omega)).trans (HK.out.block F (Array.getElem?_eq_some_iff.1 (HDS.out F hF).2).1)) hK (by omega) (show w.heap.size + 2 ≤ D by omega))
            have HBB := hide (HB8.out.trans (r6.mono (m := w.heap.size) (by omega) (fun j hj h => h.resolve_right (by omega))))
            have HDD := hide (show (dn ++ ys) ++ runs f s (xs.drop E) = runs f s xs by rw [List.append_assoc, ← HNX.out, HDN.out])
            have c1 := HT.out.cell
            have c2 := r4.cell
            have R1 := hide r1
            have R3 := hide r3
            have R4 := hide r4
            have R5 := hide r5
            have CC := hide (And.intro c1 c2)
            clear r1 r3 r4 r5 r6 hK c1 c2
            go_wp2
            refine ⟨⟨E, D :: Ds, dn ++ ys, zs', _, _, _, _, _, _, _, _, _, _, _, _, _, _, _, _, _, _, _, _, _, _, _, _, _, _, _, _, _, _, _, _, _, _, _, _, rfl, by omega, by rw [List.length_append]; omega, HDD.out, R1.out, r2, R3.out, R5.out, R4.out, HBB.out, HX.out.1, HX.out.2⟩, ?_⟩
            rw [CC.out.1, CC.out.2]
            simp [intOf]
            omega
          case hstop =>
            rintro D c pre W' hD hpx h hK
            exact h.elim
        · have q4 : ¬ (M : Int) + (s : Int) ≤ (xs.length : Int) := by omega
          have q5 : (M : Int) ≤ (xs.length : Int) := by omega
          have n4 : ¬ ca = M := by omega
          have n5 : M ≤ xs.length := by omega
          have n6 : xs.length ≤ ca := by omega
          have HE := hide (show xs.length = min (M + s) xs.length by omega)
          clear h2
          have K : Below W.heap.size W W.drew := (Below.refl _ _).drew
          have HT := hide bT
          have CF := hide (fun U (k' : Below W.heap.size W U) => (k'.cell (p := ⟨w.heap.size + 1, 0, none⟩) HT.out.lt).trans HT.out.cell)
          go_wp2
          first | go_region_held3 (fun u => u.cell? ⟨w.heap.size + 1, 0, none⟩ = some (.int .i64 k))
            (first | with_reducible exact CF.out _ K | go_keep)
            (first | (go_at_call 32; (with_reducible refine itmerged_box.mono ?_); rintro e w8 ⟨rfl, b1, b2, b3, hb⟩; have KX := K; replace K := K.trans (hb.mono K.size); clear hb)) | fail "region"
          have hsz : W.heap.size + 3 ≤ w8.heap.size := by have := b3.lt; simp at this; omega
          have hwW := HB.out.size
          have hbtW := HT.out.lt
          have hB8 : BelX (fun k => k = gi) w.heap.size w w8 := HB.out.trans (BelX.of K hwW)
          have hrow8 : ItRow w8 gi zs := HROW.out.keep (K.block _ HROW.out.lt)
          have bI8 : Boxed w8 w.heap.size 22 (.slice (some ⟨gi, 0, none⟩) xs.length ci) := (K.block _ BI.out.lt).trans BI.out
          have bT8 : Boxed w8 (w.heap.size + 1) 3 (.int .i64 k) := (K.block _ HT.out.lt).trans HT.out
          have RA : ItRd (fun g => g < w8.heap.size ∧ ¬ (g = gi ∨ g = w.heap.size + 1)) w8 (.slice (some ⟨ga, oa + k * 2, none⟩) (M - k) (ca - k)) ((xs.drop k).take s) := sub_rd IA.out hB8 ga1 ga2 ⟨by omega, by omega⟩ (run_al xs HM.out) (by omega) (by omega) (run_a xs HM.out) (by omega) (by unfold maxLen; omega)
          have RB : ItRd (fun g => g < w8.heap.size ∧ ¬ (g = gi ∨ g = w.heap.size + 1)) w8 (.slice (some ⟨ga, oa + M * 2, none⟩) (xs.length - M) (ca - M)) (((xs.drop k).drop s).take s) := sub_rd IA.out hB8 ga1 ga2 ⟨by omega, by omega⟩ (run_bl xs HM.out HE.out) (by omega) (by omega) (run_b xs HM.out HE.out) (by omega) (by unfold maxLen; omega)
          have hI8 := hide (HI.out w w8 HIw.out hB8)
          have hIm := hide (fun (U U' : World) (h : I U) (kk : BelX (fun k => k = gi ∨ k = w.heap.size + 1) w8.heap.size U U') => HI.out U U' h (kk.mono (m := w.heap.size) (by omega) (fun j hj h => h.resolve_right (by omega))))
          have hseq := itmerged_stops (n := 3) (X := (fun k => k = gi ∨ k = w.heap.size + 1)) (n₀ := w8.heap.size) (by omega) b1 b2 b3 ⟨by have := b1.lt; simpa using this, by simp; omega⟩ ⟨by have := b2.lt; simpa using this, by simp; omega⟩ ⟨by have := b3.lt; simpa using this, by simp; omega⟩ RA RB HCC.out hI8.out hIm.out (Nat.le_refl _) (by rw [run_al xs HM.out]; omega) (by rw [run_bl xs HM.out HE.out]; omega)
          obtain ⟨Z, hZ⟩ : ∃ Z, mrg f ((xs.drop k).take s) (((xs.drop k).drop s).take s) = Z := ⟨_, rfl⟩
          have hZl : Z.length = xs.length - k := by rw [← hZ, mrg_len, run_al xs HM.out, run_bl xs HM.out HE.out]; omega
          have hN : ((xs.drop k).take s).length + (((xs.drop k).drop s).take s).length = xs.length - k := by rw [run_al xs HM.out, run_bl xs HM.out HE.out]; omega
          have hnx := run_next f hs hkl HM.out HE.out
          rw [hZ, hN] at hseq
          rw [hZ] at hnx
          have HSEQ := hide hseq
          have HNX := hide hnx
          have HK := hide K
          have HB8 := hide hB8
          clear hseq hnx K hB8 RA RB hZ hN b1 b2 b3 hI8 hIm CF KX
          have hgi8 : gi < w8.heap.size := by omega
          have hbt8 : w.heap.size + 1 < w8.heap.size := by omega
          have hbi8 : w.heap.size < w8.heap.size := by omega
          go_wp2_with fail
          refine (wpIn_wide (n := 4)).1 ?_
          refine' wpIn_rangeFunc_ownH rfl (by omega) (gf := 38) (lb := #[.pointer (some ⟨W.heap.size, 0, none⟩), .pointer (some ⟨W.heap.size + 1, 0, none⟩), .pointer (some ⟨W.heap.size + 2, 0, none⟩)]) (by simp [go_sem]) trivial (enters_of Try.func38 (by kernel_rfl) rfl)
            HSEQ.out BelX.trans (fun W l o o' hl _ _ _ => belx_putObj o' hl) (Below.refl _ _) (fun _ => rfl)
            (fun pre W' => OI gi (w.heap.size + 1) w.heap.size ci xs.length k dn w8 pre W')
            (fun _ _ _ => False) (oi_own (by omega) (by omega) (by omega)) (fun _ _ _ _ _ hs _ _ => hs) (oi_start hrow8 hzl HZT.out bT8 bI8)
            (fun x a' W' => ∃ Bx, w8.heap.size ≤ Bx ∧ W'.heap[Bx]? = some (.cells #[.int .i64 x.1, .int .i64 x.2] 29 (0, 0)) ∧ a' = { tmps := #[.slice (some ⟨gi, 0, none⟩) xs.length ci, .slice (some ⟨ga, oa, none⟩) xs.length ca, .int .i64 s, .func (.func cg) #[] cl, .pointer (some ⟨w.heap.size, 0, none⟩), undef, undef, undef, .pointer (some ⟨w.heap.size + 1, 0, none⟩), .int .i64 M, .int .i64 xs.length, .pointer (some ⟨Bx, 0, none⟩), .int .i64 k, .slice (some ⟨ga, oa, none⟩) xs.length ca, .int .i64 xs.length, .bool true, .int .i64 k, .int .i64 s, .int .i64 (M), .slice (some ⟨ga, oa, none⟩) xs.length ca, .int .i64 xs.length, .int .i64 M, .int .i64 M, .int .i64 s, .int .i64 ((M : Int) + (s : Int)), .slice (some ⟨ga, oa, none⟩) xs.length ca, .int .i64 xs.length, .int .i64 xs.length, .slice (some ⟨ga, oa, none⟩) xs.length ca, .int .i64 k, .int .i64 M, .slice (some ⟨ga, oa + k * 2, none⟩) (M - k) (ca - k), .slice (some ⟨ga, oa, none⟩) xs.length ca, .int .i64 M, .int .i64 xs.length, .slice (some ⟨ga, oa + M * 2, none⟩) (xs.length - M) (ca - M), .func (.func cg) #[] cl, .func (.func 38) #[] #[.pointer (some ⟨W.heap.size, 0, none⟩), .pointer (some ⟨W.heap.size + 1, 0, none⟩), .pointer (some ⟨W.heap.size + 2, 0, none⟩)], itV x, x39, x40, x41, x42, x43, x44], defers := [] }) ?hAx ?hassign ?hbody ?hdone ?hstop
          case hAx =>
            rintro x a' u X Y row ⟨Bx, h1, h2, h3⟩ hg hr
            exact ⟨Bx, h1, (hg.block Bx (Array.getElem?_eq_some_iff.1 h2).1 (fun e => by obtain ⟨_, o, ho, hc⟩ := hr Bx e.symm; rw [h2] at ho; cases ho; cases hc)).trans h2, h3⟩
          case hassign =>
            rintro l pre x W' K hi hK
            gi_wp2
            have hs8 := hi.choose_spec.2.2.2.2.2.size
            exact hK _ _ ((KeepsOthers.alloc _ _).from _) (BelX.of ((Below.refl _ W').alloc (Nat.le_refl _) _) hs8) (oi_own hgi8 hbt8 hbi8 pre W' _ none hi (World.grownBy_alloc _ _ none) (fun r e => by cases e)) ⟨W'.heap.size, hs8, World.alloc_heap_new W' _, rfl⟩
          case hbody =>
            rintro l pre x a' W' hl hr ⟨zs', r1, r2, r3, r4, r5, r6⟩ ⟨Bx, hBx, hx0, rfl⟩ hlt
            have c4 := r4.cell
            have c5 := r5.cell
            have f4 := r4.frozen
            obtain ⟨m, hm⟩ : ∃ m, k + pre.length = m := ⟨_, rfl⟩
            rw [hm] at c4 r3 r4
            have hml : m < xs.length := by omega
            have q6 : (m : Int) < (xs.length : Int) := by omega
            have fz0 := r1.frozen (m * 2)
            have fz1 := r1.frozen (m * 2 + 1)
            obtain ⟨cz0, cz1⟩ := r1.cell (i := m) (by omega)
            have cx0 := cell_of_row W' _ 0 _ _ _ hx0
            have cx1 := cell_of_row W' _ 1 _ _ _ hx0
            obtain ⟨x1, x2⟩ := x
            simp at cx0 cx1
            have HR1 := hide r1
            have HR3 := hide r3
            have HR4 := hide r4
            have HR5 := hide r5
            have HR6 := hide r6
            have HMM := hide hm
            have HX0 := hide hx0; clear hx0; clear r1 r3 r4 r5 r6 hm
            have HOI := hide (oi_step ⟨zs', HR1.out, r2, by rw [HMM.out]; exact HR3.out, by rw [HMM.out]; exact HR4.out, HR5.out, HR6.out⟩ HMM.out hml (by omega) (by omega) (by omega) (x1, x2))
            gi_wp2
            exact ⟨HOI.out.2.2, HOI.out.2.1, HOI.out.1⟩
          case hdone =>
            rintro D ys W' hD rfl ⟨zs', r1, r2, r3, r4, r5, r6⟩ hK
            have hkE : k + ys.length = xs.length := by omega
            rw [hkE] at r3 r4
            have HX := hide (marks_more HDS.out hnd (fun F hF => (r6.block F (by have := (Array.getElem?_eq_some_iff.1 (HDS.out F hF).2).1; omega) (by have := (HDS.out F hF).1; omega)).trans (HK.out.block F (Array.getElem?_eq_some_iff.1 (HDS.out F hF).2).1)) hK (by omega) (show w.heap.size + 2 ≤ D by omega))
            have HBB := hide (HB8.out.trans (r6.mono (m := w.heap.size) (by omega) (fun j hj h => h.resolve_right (by omega))))
            have HDD := hide (show (dn ++ ys) ++ runs f s (xs.drop xs.length) = runs f s xs by rw [List.append_assoc, ← HNX.out, HDN.out])
            have c1 := HT.out.cell
            have c2 := r4.cell
            have R1 := hide r1
            have R3 := hide r3
            have R4 := hide r4
            have R5 := hide r5
            have CC := hide (And.intro c1 c2)
            clear r1 r3 r4 r5 r6 hK c1 c2
            go_wp2
            refine ⟨⟨xs.length, D :: Ds, dn ++ ys, zs', _, _, _, _, _, _, _, _, _, _, _, _, _, _, _, _, _, _, _, _, _, _, _, _, _, _, _, _, _, _, _, _, _, _, _, _, rfl, by omega, by rw [List.length_append]; omega, HDD.out, R1.out, r2, R3.out, R5.out, R4.out, HBB.out, HX.out.1, HX.out.2⟩, ?_⟩
            rw [CC.out.1, CC.out.2]
            simp [intOf]
            omega
          case hstop =>
            rintro D c pre W' hD hpx h hK
            exact h.elim
      · have HM := hide (show xs.length = min (k + s) xs.length by omega)
        have HE := hide (show xs.length = min (xs.length + s) xs.length by omega)
        have q4 : ¬ (xs.length : Int) + (s : Int) ≤ (xs.length : Int) := by omega
        have n3 : xs.length ≤ ca := by omega
        have n2 : k ≤ xs.length := by omega
        by_cases h3 : k + s = xs.length
        · have e1 : (k : Int) + (s : Int) = (xs.length : Int) := by omega
          clear h3
          by_cases n4 : ca = xs.length
          · subst n4
            have K : Below W.heap.size W W.drew := (Below.refl _ _).drew
            have HT := hide bT
            have CF := hide (fun U (k' : Below W.heap.size W U) => (k'.cell (p := ⟨w.heap.size + 1, 0, none⟩) HT.out.lt).trans HT.out.cell)
            go_wp2
            first | go_region_held3 (fun u => u.cell? ⟨w.heap.size + 1, 0, none⟩ = some (.int .i64 k))
              (first | with_reducible exact CF.out _ K | go_keep)
              (first | (go_at_call 32; (with_reducible refine itmerged_box.mono ?_); rintro e w8 ⟨rfl, b1, b2, b3, hb⟩; have KX := K; replace K := K.trans (hb.mono K.size); clear hb)) | fail "region"
            have hsz : W.heap.size + 3 ≤ w8.heap.size := by have := b3.lt; simp at this; omega
            have hwW := HB.out.size
            have hbtW := HT.out.lt
            have hB8 : BelX (fun k => k = gi) w.heap.size w w8 := HB.out.trans (BelX.of K hwW)
            have hrow8 : ItRow w8 gi zs := HROW.out.keep (K.block _ HROW.out.lt)
            have bI8 : Boxed w8 w.heap.size 22 (.slice (some ⟨gi, 0, none⟩) xs.length ci) := (K.block _ BI.out.lt).trans BI.out
            have bT8 : Boxed w8 (w.heap.size + 1) 3 (.int .i64 k) := (K.block _ HT.out.lt).trans HT.out
            have RA : ItRd (fun g => g < w8.heap.size ∧ ¬ (g = gi ∨ g = w.heap.size + 1)) w8 (.slice (some ⟨ga, oa + k * 2, none⟩) (xs.length - k) (xs.length - k)) ((xs.drop k).take s) := sub_rd IA.out hB8 ga1 ga2 ⟨by omega, by omega⟩ (run_al xs HM.out) (by omega) (by omega) (run_a xs HM.out) (by omega) (by unfold maxLen; omega)
            have RB : ItRd (fun g => g < w8.heap.size ∧ ¬ (g = gi ∨ g = w.heap.size + 1)) w8 (.slice (some ⟨ga, oa, none⟩) 0 0) (((xs.drop k).drop s).take s) := nil_rd (by omega) (List.eq_nil_of_length_eq_zero (by rw [run_bl xs HM.out HE.out]; omega)) (by unfold maxLen; omega)
            have hI8 := hide (HI.out w w8 HIw.out hB8)
            have hIm := hide (fun (U U' : World) (h : I U) (kk : BelX (fun k => k = gi ∨ k = w.heap.size + 1) w8.heap.size U U') => HI.out U U' h (kk.mono (m := w.heap.size) (by omega) (fun j hj h => h.resolve_right (by omega))))
            have hseq := itmerged_stops (n := 3) (X := (fun k => k = gi ∨ k = w.heap.size + 1)) (n₀ := w8.heap.size) (by omega) b1 b2 b3 ⟨by have := b1.lt; simpa using this, by simp; omega⟩ ⟨by have := b2.lt; simpa using this, by simp; omega⟩ ⟨by have := b3.lt; simpa using this, by simp; omega⟩ RA RB HCC.out hI8.out hIm.out (Nat.le_refl _) (by rw [run_al xs HM.out]; omega) (by rw [run_bl xs HM.out HE.out]; omega)
            obtain ⟨Z, hZ⟩ : ∃ Z, mrg f ((xs.drop k).take s) (((xs.drop k).drop s).take s) = Z := ⟨_, rfl⟩
            have hZl : Z.length = xs.length - k := by rw [← hZ, mrg_len, run_al xs HM.out, run_bl xs HM.out HE.out]; omega
            have hN : ((xs.drop k).take s).length + (((xs.drop k).drop s).take s).length = xs.length - k := by rw [run_al xs HM.out, run_bl xs HM.out HE.out]; omega
            have hnx := run_next f hs hkl HM.out HE.out
            rw [hZ, hN] at hseq
            rw [hZ] at hnx
            have HSEQ := hide hseq
            have HNX := hide hnx
            have HK := hide K
            have HB8 := hide hB8
            clear hseq hnx K hB8 RA RB hZ hN b1 b2 b3 hI8 hIm CF KX
            have hgi8 : gi < w8.heap.size := by omega
            have hbt8 : w.heap.size + 1 < w8.heap.size := by omega
            have hbi8 : w.heap.size < w8.heap.size := by omega
            go_wp2_with fail
            refine (wpIn_wide (n := 4)).1 ?_
            refine' wpIn_rangeFunc_ownH rfl (by omega) (gf := 38) (lb := #[.pointer (some ⟨W.heap.size, 0, none⟩), .pointer (some ⟨W.heap.size + 1, 0, none⟩), .pointer (some ⟨W.heap.size + 2, 0, none⟩)]) (by simp [go_sem]) trivial (enters_of Try.func38 (by kernel_rfl) rfl)
              HSEQ.out BelX.trans (fun W l o o' hl _ _ _ => belx_putObj o' hl) (Below.refl _ _) (fun _ => rfl)
              (fun pre W' => OI gi (w.heap.size + 1) w.heap.size ci xs.length k dn w8 pre W')
              (fun _ _ _ => False) (oi_own (by omega) (by omega) (by omega)) (fun _ _ _ _ _ hs _ _ => hs) (oi_start hrow8 hzl HZT.out bT8 bI8)
              (fun x a' W' => ∃ Bx, w8.heap.size ≤ Bx ∧ W'.heap[Bx]? = some (.cells #[.int .i64 x.1, .int .i64 x.2] 29 (0, 0)) ∧ a' = { tmps := #[.slice (some ⟨gi, 0, none⟩) xs.length ci, .slice (some ⟨ga, oa, none⟩) xs.length xs.length, .int .i64 s, .func (.func cg) #[] cl, .pointer (some ⟨w.heap.size, 0, none⟩), undef, undef, undef, .pointer (some ⟨w.heap.size + 1, 0, none⟩), .int .i64 xs.length, .int .i64 xs.length, .pointer (some ⟨Bx, 0, none⟩), .int .i64 k, .slice (some ⟨ga, oa, none⟩) xs.length xs.length, .int .i64 xs.length, .bool true, .int .i64 k, .int .i64 s, .int .i64 (xs.length), .slice (some ⟨ga, oa, none⟩) xs.length xs.length, .int .i64 xs.length, .int .i64 xs.length, .int .i64 xs.length, .int .i64 s, .int .i64 ((xs.length : Int) + (s : Int)), .slice (some ⟨ga, oa, none⟩) xs.length xs.length, .int .i64 xs.length, .int .i64 xs.length, .slice (some ⟨ga, oa, none⟩) xs.length xs.length, .int .i64 k, .int .i64 xs.length, .slice (some ⟨ga, oa + k * 2, none⟩) (xs.length - k) (xs.length - k), .slice (some ⟨ga, oa, none⟩) xs.length xs.length, .int .i64 xs.length, .int .i64 xs.length, .slice (some ⟨ga, oa, none⟩) 0 0, .func (.func cg) #[] cl, .func (.func 38) #[] #[.pointer (some ⟨W.heap.size, 0, none⟩), .pointer (some ⟨W.heap.size + 1, 0, none⟩), .pointer (some ⟨W.heap.size + 2, 0, none⟩)], itV x, x39, x40, x41, x42, x43, x44], defers := [] }) ?hAx ?hassign ?hbody ?hdone ?hstop
            case hAx =>
              rintro x a' u X Y row ⟨Bx, h1, h2, h3⟩ hg hr
              exact ⟨Bx, h1, (hg.block Bx (Array.getElem?_eq_some_iff.1 h2).1 (fun e => by obtain ⟨_, o, ho, hc⟩ := hr Bx e.symm; rw [h2] at ho; cases ho; cases hc)).trans h2, h3⟩
            case hassign =>
              rintro l pre x W' K hi hK
              gi_wp2
              have hs8 := hi.choose_spec.2.2.2.2.2.size
              exact hK _ _ ((KeepsOthers.alloc _ _).from _) (BelX.of ((Below.refl _ W').alloc (Nat.le_refl _) _) hs8) (oi_own hgi8 hbt8 hbi8 pre W' _ none hi (World.grownBy_alloc _ _ none) (fun r e => by cases e)) ⟨W'.heap.size, hs8, World.alloc_heap_new W' _, rfl⟩
            case hbody =>
              rintro l pre x a' W' hl hr ⟨zs', r1, r2, r3, r4, r5, r6⟩ ⟨Bx, hBx, hx0, rfl⟩ hlt
              have c4 := r4.cell
              have c5 := r5.cell
              have f4 := r4.frozen
              obtain ⟨m, hm⟩ : ∃ m, k + pre.length = m := ⟨_, rfl⟩
              rw [hm] at c4 r3 r4
              have hml : m < xs.length := by omega
              have q6 : (m : Int) < (xs.length : Int) := by omega
              have fz0 := r1.frozen (m * 2)
              have fz1 := r1.frozen (m * 2 + 1)
              obtain ⟨cz0, cz1⟩ := r1.cell (i := m) (by omega)
              have cx0 := cell_of_row W' _ 0 _ _ _ hx0
              have cx1 := cell_of_row W' _ 1 _ _ _ hx0
              obtain ⟨x1, x2⟩ := x
              simp at cx0 cx1
              have HR1 := hide r1
              have HR3 := hide r3
              have HR4 := hide r4
              have HR5 := hide r5
              have HR6 := hide r6
              have HMM := hide hm
              have HX0 := hide hx0; clear hx0; clear r1 r3 r4 r5 r6 hm
              have HOI := hide (oi_step ⟨zs', HR1.out, r2, by rw [HMM.out]; exact HR3.out, by rw [HMM.out]; exact HR4.out, HR5.out, HR6.out⟩ HMM.out hml (by omega) (by omega) (by omega) (x1, x2))
              gi_wp2
              exact ⟨HOI.out.2.2, HOI.out.2.1, HOI.out.1⟩
            case hdone =>
              rintro D ys W' hD rfl ⟨zs', r1, r2, r3, r4, r5, r6⟩ hK
              have hkE : k + ys.length = xs.length := by omega
              rw [hkE] at r3 r4
              have HX := hide (marks_more HDS.out hnd (fun F hF => (r6.block F (by have := (Array.getElem?_eq_some_iff.1 (HDS.out F hF).2).1; omega) (by have := (HDS.out F hF).1; omega)).trans (HK.out.block F (Array.getElem?_eq_some_iff.1 (HDS.out F hF).2).1)) hK (by omega) (show w.heap.size + 2 ≤ D by omega))
              have HBB := hide (HB8.out.trans (r6.mono (m := w.heap.size) (by omega) (fun j hj h => h.resolve_right (by omega))))
              have HDD := hide (show (dn ++ ys) ++ runs f s (xs.drop xs.length) = runs f s xs by rw [List.append_assoc, ← HNX.out, HDN.out])
              have c1 := HT.out.cell
              have c2 := r4.cell
              have R1 := hide r1
              have R3 := hide r3
              have R4 := hide r4
              have R5 := hide r5
              have CC := hide (And.intro c1 c2)
              clear r1 r3 r4 r5 r6 hK c1 c2
              go_wp2
              refine ⟨⟨xs.length, D :: Ds, dn ++ ys, zs', _, _, _, _, _, _, _, _, _, _, _, _, _, _, _, _, _, _, _, _, _, _, _, _, _, _, _, _, _, _, _, _, _, _, _, _, rfl, by omega, by rw [List.length_append]; omega, HDD.out, R1.out, r2, R3.out, R5.out, R4.out, HBB.out, HX.out.1, HX.out.2⟩, ?_⟩
              rw [CC.out.1, CC.out.2]
              simp [intOf]
              omega
            case hstop =>
              rintro D c pre W' hD hpx h hK
              exact h.elim
          · skip
            have K : Below W.heap.size W W.drew := (Below.refl _ _).drew
            have HT := hide bT
            have CF := hide (fun U (k' : Below W.heap.size W U) => (k'.cell (p := ⟨w.heap.size + 1, 0, none⟩) HT.out.lt).trans HT.out.cell)
            go_wp2
            first | go_region_held3 (fun u => u.cell? ⟨w.heap.size + 1, 0, none⟩ = some (.int .i64 k))
              (first | with_reducible exact CF.out _ K | go_keep)
              (first | (go_at_call 32; (with_reducible refine itmerged_box.mono ?_); rintro e w8 ⟨rfl, b1, b2, b3, hb⟩; have KX := K; replace K := K.trans (hb.mono K.size); clear hb)) | fail "region"
            have hsz : W.heap.size + 3 ≤ w8.heap.size := by have := b3.lt; simp at this; omega
            have hwW := HB.out.size
            have hbtW := HT.out.lt
            have hB8 : BelX (fun k => k = gi) w.heap.size w w8 := HB.out.trans (BelX.of K hwW)
            have hrow8 : ItRow w8 gi zs := HROW.out.keep (K.block _ HROW.out.lt)
            have bI8 : Boxed w8 w.heap.size 22 (.slice (some ⟨gi, 0, none⟩) xs.length ci) := (K.block _ BI.out.lt).trans BI.out
            have bT8 : Boxed w8 (w.heap.size + 1) 3 (.int .i64 k) := (K.block _ HT.out.lt).trans HT.out
            have RA : ItRd (fun g => g < w8.heap.size ∧ ¬ (g = gi ∨ g = w.heap.size + 1)) w8 (.slice (some ⟨ga, oa + k * 2, none⟩) (xs.length - k) (ca - k)) ((xs.drop k).take s) := sub_rd IA.out hB8 ga1 ga2 ⟨by omega, by omega⟩ (run_al xs HM.out) (by omega) (by omega) (run_a xs HM.out) (by omega) (by unfold maxLen; omega)
            have RB : ItRd (fun g => g < w8.heap.size ∧ ¬ (g = gi ∨ g = w.heap.size + 1)) w8 (.slice (some ⟨ga, oa + xs.length * 2, none⟩) 0 (ca - xs.length)) (((xs.drop k).drop s).take s) := nil_rd (by omega) (List.eq_nil_of_length_eq_zero (by rw [run_bl xs HM.out HE.out]; omega)) (by unfold maxLen; omega)
            have hI8 := hide (HI.out w w8 HIw.out hB8)
            have hIm := hide (fun (U U' : World) (h : I U) (kk : BelX (fun k => k = gi ∨ k = w.heap.size + 1) w8.heap.size U U') => HI.out U U' h (kk.mono (m := w.heap.size) (by omega) (fun j hj h => h.resolve_right (by omega))))
            have hseq := itmerged_stops (n := 3) (X := (fun k => k = gi ∨ k = w.heap.size + 1)) (n₀ := w8.heap.size) (by omega) b1 b2 b3 ⟨by have := b1.lt; simpa using this, by simp; omega⟩ ⟨by have := b2.lt; simpa using this, by simp; omega⟩ ⟨by have := b3.lt; simpa using this, by simp; omega⟩ RA RB HCC.out hI8.out hIm.out (Nat.le_refl _) (by rw [run_al xs HM.out]; omega) (by rw [run_bl xs HM.out HE.out]; omega)
            obtain ⟨Z, hZ⟩ : ∃ Z, mrg f ((xs.drop k).take s) (((xs.drop k).drop s).take s) = Z := ⟨_, rfl⟩
            have hZl : Z.length = xs.length - k := by rw [← hZ, mrg_len, run_al xs HM.out, run_bl xs HM.out HE.out]; omega
            have hN : ((xs.drop k).take s).length + (((xs.drop k).drop s).take s).length = xs.length - k := by rw [run_al xs HM.out, run_bl xs HM.out HE.out]; omega
            have hnx := run_next f hs hkl HM.out HE.out
            rw [hZ, hN] at hseq
            rw [hZ] at hnx
            have HSEQ := hide hseq
            have HNX := hide hnx
            have HK := hide K
            have HB8 := hide hB8
            clear hseq hnx K hB8 RA RB hZ hN b1 b2 b3 hI8 hIm CF KX
            have hgi8 : gi < w8.heap.size := by omega
            have hbt8 : w.heap.size + 1 < w8.heap.size := by omega
            have hbi8 : w.heap.size < w8.heap.size := by omega
            go_wp2_with fail
            refine (wpIn_wide (n := 4)).1 ?_
            refine' wpIn_rangeFunc_ownH rfl (by omega) (gf := 38) (lb := #[.pointer (some ⟨W.heap.size, 0, none⟩), .pointer (some ⟨W.heap.size + 1, 0, none⟩), .pointer (some ⟨W.heap.size + 2, 0, none⟩)]) (by simp [go_sem]) trivial (enters_of Try.func38 (by kernel_rfl) rfl)
              HSEQ.out BelX.trans (fun W l o o' hl _ _ _ => belx_putObj o' hl) (Below.refl _ _) (fun _ => rfl)
              (fun pre W' => OI gi (w.heap.size + 1) w.heap.size ci xs.length k dn w8 pre W')
              (fun _ _ _ => False) (oi_own (by omega) (by omega) (by omega)) (fun _ _ _ _ _ hs _ _ => hs) (oi_start hrow8 hzl HZT.out bT8 bI8)
              (fun x a' W' => ∃ Bx, w8.heap.size ≤ Bx ∧ W'.heap[Bx]? = some (.cells #[.int .i64 x.1, .int .i64 x.2] 29 (0, 0)) ∧ a' = { tmps := #[.slice (some ⟨gi, 0, none⟩) xs.length ci, .slice (some ⟨ga, oa, none⟩) xs.length ca, .int .i64 s, .func (.func cg) #[] cl, .pointer (some ⟨w.heap.size, 0, none⟩), undef, undef, undef, .pointer (some ⟨w.heap.size + 1, 0, none⟩), .int .i64 xs.length, .int .i64 xs.length, .pointer (some ⟨Bx, 0, none⟩), .int .i64 k, .slice (some ⟨ga, oa, none⟩) xs.length ca, .int .i64 xs.length, .bool true, .int .i64 k, .int .i64 s, .int .i64 (xs.length), .slice (some ⟨ga, oa, none⟩) xs.length ca, .int .i64 xs.length, .int .i64 xs.length, .int .i64 xs.length, .int .i64 s, .int .i64 ((xs.length : Int) + (s : Int)), .slice (some ⟨ga, oa, none⟩) xs.length ca, .int .i64 xs.length, .int .i64 xs.length, .slice (some ⟨ga, oa, none⟩) xs.length ca, .int .i64 k, .int .i64 xs.length, .slice (some ⟨ga, oa + k * 2, none⟩) (xs.length - k) (ca - k), .slice (some ⟨ga, oa, none⟩) xs.length ca, .int .i64 xs.length, .int .i64 xs.length, .slice (some ⟨ga, oa + xs.length * 2, none⟩) 0 (ca - xs.length), .func (.func cg) #[] cl, .func (.func 38) #[] #[.pointer (some ⟨W.heap.size, 0, none⟩), .pointer (some ⟨W.heap.size + 1, 0, none⟩), .pointer (some ⟨W.heap.size + 2, 0, none⟩)], itV x, x39, x40, x41, x42, x43, x44], defers := [] }) ?hAx ?hassign ?hbody ?hdone ?hstop
            case hAx =>
              rintro x a' u X Y row ⟨Bx, h1, h2, h3⟩ hg hr
              exact ⟨Bx, h1, (hg.block Bx (Array.getElem?_eq_some_iff.1 h2).1 (fun e => by obtain ⟨_, o, ho, hc⟩ := hr Bx e.symm; rw [h2] at ho; cases ho; cases hc)).trans h2, h3⟩
            case hassign =>
              rintro l pre x W' K hi hK
              gi_wp2
              have hs8 := hi.choose_spec.2.2.2.2.2.size
              exact hK _ _ ((KeepsOthers.alloc _ _).from _) (BelX.of ((Below.refl _ W').alloc (Nat.le_refl _) _) hs8) (oi_own hgi8 hbt8 hbi8 pre W' _ none hi (World.grownBy_alloc _ _ none) (fun r e => by cases e)) ⟨W'.heap.size, hs8, World.alloc_heap_new W' _, rfl⟩
            case hbody =>
              rintro l pre x a' W' hl hr ⟨zs', r1, r2, r3, r4, r5, r6⟩ ⟨Bx, hBx, hx0, rfl⟩ hlt
              have c4 := r4.cell
              have c5 := r5.cell
              have f4 := r4.frozen
              obtain ⟨m, hm⟩ : ∃ m, k + pre.length = m := ⟨_, rfl⟩
              rw [hm] at c4 r3 r4
              have hml : m < xs.length := by omega
              have q6 : (m : Int) < (xs.length : Int) := by omega
              have fz0 := r1.frozen (m * 2)
              have fz1 := r1.frozen (m * 2 + 1)
              obtain ⟨cz0, cz1⟩ := r1.cell (i := m) (by omega)
              have cx0 := cell_of_row W' _ 0 _ _ _ hx0
              have cx1 := cell_of_row W' _ 1 _ _ _ hx0
              obtain ⟨x1, x2⟩ := x
              simp at cx0 cx1
              have HR1 := hide r1
              have HR3 := hide r3
              have HR4 := hide r4
              have HR5 := hide r5
              have HR6 := hide r6
              have HMM := hide hm
              have HX0 := hide hx0; clear hx0; clear r1 r3 r4 r5 r6 hm
              have HOI := hide (oi_step ⟨zs', HR1.out, r2, by rw [HMM.out]; exact HR3.out, by rw [HMM.out]; exact HR4.out, HR5.out, HR6.out⟩ HMM.out hml (by omega) (by omega) (by omega) (x1, x2))
              gi_wp2
              exact ⟨HOI.out.2.2, HOI.out.2.1, HOI.out.1⟩
            case hdone =>
              rintro D ys W' hD rfl ⟨zs', r1, r2, r3, r4, r5, r6⟩ hK
              have hkE : k + ys.length = xs.length := by omega
              rw [hkE] at r3 r4
              have HX := hide (marks_more HDS.out hnd (fun F hF => (r6.block F (by have := (Array.getElem?_eq_some_iff.1 (HDS.out F hF).2).1; omega) (by have := (HDS.out F hF).1; omega)).trans (HK.out.block F (Array.getElem?_eq_some_iff.1 (HDS.out F hF).2).1)) hK (by omega) (show w.heap.size + 2 ≤ D by omega))
              have HBB := hide (HB8.out.trans (r6.mono (m := w.heap.size) (by omega) (fun j hj h => h.resolve_right (by omega))))
              have HDD := hide (show (dn ++ ys) ++ runs f s (xs.drop xs.length) = runs f s xs by rw [List.append_assoc, ← HNX.out, HDN.out])
              have c1 := HT.out.cell
              have c2 := r4.cell
              have R1 := hide r1
              have R3 := hide r3
              have R4 := hide r4
              have R5 := hide r5
              have CC := hide (And.intro c1 c2)
              clear r1 r3 r4 r5 r6 hK c1 c2
              go_wp2
              refine ⟨⟨xs.length, D :: Ds, dn ++ ys, zs', _, _, _, _, _, _, _, _, _, _, _, _, _, _, _, _, _, _, _, _, _, _, _, _, _, _, _, _, _, _, _, _, _, _, _, _, rfl, by omega, by rw [List.length_append]; omega, HDD.out, R1.out, r2, R3.out, R5.out, R4.out, HBB.out, HX.out.1, HX.out.2⟩, ?_⟩
              rw [CC.out.1, CC.out.2]
              simp [intOf]
              omega
            case hstop =>
              rintro D c pre W' hD hpx h hK
              exact h.elim
        · have q2 : ¬ (k : Int) + (s : Int) ≤ (xs.length : Int) := by omega
          clear h3
          by_cases n4 : ca = xs.length
          · subst n4
            have K : Below W.heap.size W W.drew := (Below.refl _ _).drew
            have HT := hide bT
            have CF := hide (fun U (k' : Below W.heap.size W U) => (k'.cell (p := ⟨w.heap.size + 1, 0, none⟩) HT.out.lt).trans HT.out.cell)
            go_wp2
            first | go_region_held3 (fun u => u.cell? ⟨w.heap.size + 1, 0, none⟩ = some (.int .i64 k))
              (first | with_reducible exact CF.out _ K | go_keep)
              (first | (go_at_call 32; (with_reducible refine itmerged_box.mono ?_); rintro e w8 ⟨rfl, b1, b2, b3, hb⟩; have KX := K; replace K := K.trans (hb.mono K.size); clear hb)) | fail "region"
            have hsz : W.heap.size + 3 ≤ w8.heap.size := by have := b3.lt; simp at this; omega
            have hwW := HB.out.size
            have hbtW := HT.out.lt
            have hB8 : BelX (fun k => k = gi) w.heap.size w w8 := HB.out.trans (BelX.of K hwW)
            have hrow8 : ItRow w8 gi zs := HROW.out.keep (K.block _ HROW.out.lt)
            have bI8 : Boxed w8 w.heap.size 22 (.slice (some ⟨gi, 0, none⟩) xs.length ci) := (K.block _ BI.out.lt).trans BI.out
            have bT8 : Boxed w8 (w.heap.size + 1) 3 (.int .i64 k) := (K.block _ HT.out.lt).trans HT.out
            have RA : ItRd (fun g => g < w8.heap.size ∧ ¬ (g = gi ∨ g = w.heap.size + 1)) w8 (.slice (some ⟨ga, oa + k * 2, none⟩) (xs.length - k) (xs.length - k)) ((xs.drop k).take s) := sub_rd IA.out hB8 ga1 ga2 ⟨by omega, by omega⟩ (run_al xs HM.out) (by omega) (by omega) (run_a xs HM.out) (by omega) (by unfold maxLen; omega)
            have RB : ItRd (fun g => g < w8.heap.size ∧ ¬ (g = gi ∨ g = w.heap.size + 1)) w8 (.slice (some ⟨ga, oa, none⟩) 0 0) (((xs.drop k).drop s).take s) := nil_rd (by omega) (List.eq_nil_of_length_eq_zero (by rw [run_bl xs HM.out HE.out]; omega)) (by unfold maxLen; omega)
            have hI8 := hide (HI.out w w8 HIw.out hB8)
            have hIm := hide (fun (U U' : World) (h : I U) (kk : BelX (fun k => k = gi ∨ k = w.heap.size + 1) w8.heap.size U U') => HI.out U U' h (kk.mono (m := w.heap.size) (by omega) (fun j hj h => h.resolve_right (by omega))))
            have hseq := itmerged_stops (n := 3) (X := (fun k => k = gi ∨ k = w.heap.size + 1)) (n₀ := w8.heap.size) (by omega) b1 b2 b3 ⟨by have := b1.lt; simpa using this, by simp; omega⟩ ⟨by have := b2.lt; simpa using this, by simp; omega⟩ ⟨by have := b3.lt; simpa using this, by simp; omega⟩ RA RB HCC.out hI8.out hIm.out (Nat.le_refl _) (by rw [run_al xs HM.out]; omega) (by rw [run_bl xs HM.out HE.out]; omega)
            obtain ⟨Z, hZ⟩ : ∃ Z, mrg f ((xs.drop k).take s) (((xs.drop k).drop s).take s) = Z := ⟨_, rfl⟩
            have hZl : Z.length = xs.length - k := by rw [← hZ, mrg_len, run_al xs HM.out, run_bl xs HM.out HE.out]; omega
            have hN : ((xs.drop k).take s).length + (((xs.drop k).drop s).take s).length = xs.length - k := by rw [run_al xs HM.out, run_bl xs HM.out HE.out]; omega
            have hnx := run_next f hs hkl HM.out HE.out
            rw [hZ, hN] at hseq
            rw [hZ] at hnx
            have HSEQ := hide hseq
            have HNX := hide hnx
            have HK := hide K
            have HB8 := hide hB8
            clear hseq hnx K hB8 RA RB hZ hN b1 b2 b3 hI8 hIm CF KX
            have hgi8 : gi < w8.heap.size := by omega
            have hbt8 : w.heap.size + 1 < w8.heap.size := by omega
            have hbi8 : w.heap.size < w8.heap.size := by omega
            go_wp2_with fail
            refine (wpIn_wide (n := 4)).1 ?_
            refine' wpIn_rangeFunc_ownH rfl (by omega) (gf := 38) (lb := #[.pointer (some ⟨W.heap.size, 0, none⟩), .pointer (some ⟨W.heap.size + 1, 0, none⟩), .pointer (some ⟨W.heap.size + 2, 0, none⟩)]) (by simp [go_sem]) trivial (enters_of Try.func38 (by kernel_rfl) rfl)
              HSEQ.out BelX.trans (fun W l o o' hl _ _ _ => belx_putObj o' hl) (Below.refl _ _) (fun _ => rfl)
              (fun pre W' => OI gi (w.heap.size + 1) w.heap.size ci xs.length k dn w8 pre W')
              (fun _ _ _ => False) (oi_own (by omega) (by omega) (by omega)) (fun _ _ _ _ _ hs _ _ => hs) (oi_start hrow8 hzl HZT.out bT8 bI8)
              (fun x a' W' => ∃ Bx, w8.heap.size ≤ Bx ∧ W'.heap[Bx]? = some (.cells #[.int .i64 x.1, .int .i64 x.2] 29 (0, 0)) ∧ a' = { tmps := #[.slice (some ⟨gi, 0, none⟩) xs.length ci, .slice (some ⟨ga, oa, none⟩) xs.length xs.length, .int .i64 s, .func (.func cg) #[] cl, .pointer (some ⟨w.heap.size, 0, none⟩), undef, undef, undef, .pointer (some ⟨w.heap.size + 1, 0, none⟩), .int .i64 xs.length, .int .i64 xs.length, .pointer (some ⟨Bx, 0, none⟩), .int .i64 k, .slice (some ⟨ga, oa, none⟩) xs.length xs.length, .int .i64 xs.length, .bool true, .int .i64 k, .int .i64 s, .int .i64 ((k : Int) + (s : Int)), .slice (some ⟨ga, oa, none⟩) xs.length xs.length, .int .i64 xs.length, .int .i64 xs.length, .int .i64 xs.length, .int .i64 s, .int .i64 ((xs.length : Int) + (s : Int)), .slice (some ⟨ga, oa, none⟩) xs.length xs.length, .int .i64 xs.length, .int .i64 xs.length, .slice (some ⟨ga, oa, none⟩) xs.length xs.length, .int .i64 k, .int .i64 xs.length, .slice (some ⟨ga, oa + k * 2, none⟩) (xs.length - k) (xs.length - k), .slice (some ⟨ga, oa, none⟩) xs.length xs.length, .int .i64 xs.length, .int .i64 xs.length, .slice (some ⟨ga, oa, none⟩) 0 0, .func (.func cg) #[] cl, .func (.func 38) #[] #[.pointer (some ⟨W.heap.size, 0, none⟩), .pointer (some ⟨W.heap.size + 1, 0, none⟩), .pointer (some ⟨W.heap.size + 2, 0, none⟩)], itV x, x39, x40, x41, x42, x43, x44], defers := [] }) ?hAx ?hassign ?hbody ?hdone ?hstop
            case hAx =>
              rintro x a' u X Y row ⟨Bx, h1, h2, h3⟩ hg hr
              exact ⟨Bx, h1, (hg.block Bx (Array.getElem?_eq_some_iff.1 h2).1 (fun e => by obtain ⟨_, o, ho, hc⟩ := hr Bx e.symm; rw [h2] at ho; cases ho; cases hc)).trans h2, h3⟩
            case hassign =>
              rintro l pre x W' K hi hK
              gi_wp2
              have hs8 := hi.choose_spec.2.2.2.2.2.size
              exact hK _ _ ((KeepsOthers.alloc _ _).from _) (BelX.of ((Below.refl _ W').alloc (Nat.le_refl _) _) hs8) (oi_own hgi8 hbt8 hbi8 pre W' _ none hi (World.grownBy_alloc _ _ none) (fun r e => by cases e)) ⟨W'.heap.size, hs8, World.alloc_heap_new W' _, rfl⟩
            case hbody =>
              rintro l pre x a' W' hl hr ⟨zs', r1, r2, r3, r4, r5, r6⟩ ⟨Bx, hBx, hx0, rfl⟩ hlt
              have c4 := r4.cell
              have c5 := r5.cell
              have f4 := r4.frozen
              obtain ⟨m, hm⟩ : ∃ m, k + pre.length = m := ⟨_, rfl⟩
              rw [hm] at c4 r3 r4
              have hml : m < xs.length := by omega
              have q6 : (m : Int) < (xs.length : Int) := by omega
              have fz0 := r1.frozen (m * 2)
              have fz1 := r1.frozen (m * 2 + 1)
              obtain ⟨cz0, cz1⟩ := r1.cell (i := m) (by omega)
              have cx0 := cell_of_row W' _ 0 _ _ _ hx0
              have cx1 := cell_of_row W' _ 1 _ _ _ hx0
              obtain ⟨x1, x2⟩ := x
              simp at cx0 cx1
              have HR1 := hide r1
              have HR3 := hide r3
              have HR4 := hide r4
              have HR5 := hide r5
              have HR6 := hide r6
              have HMM := hide hm
              have HX0 := hide hx0; clear hx0; clear r1 r3 r4 r5 r6 hm
              have HOI := hide (oi_step ⟨zs', HR1.out, r2, by rw [HMM.out]; exact HR3.out, by rw [HMM.out]; exact HR4.out, HR5.out, HR6.out⟩ HMM.out hml (by omega) (by omega) (by omega) (x1, x2))
              gi_wp2
              exact ⟨HOI.out.2.2, HOI.out.2.1, HOI.out.1⟩
            case hdone =>
              rintro D ys W' hD rfl ⟨zs', r1, r2, r3, r4, r5, r6⟩ hK
              have hkE : k + ys.length = xs.length := by omega
              rw [hkE] at r3 r4
              have HX := hide (marks_more HDS.out hnd (fun F hF => (r6.block F (by have := (Array.getElem?_eq_some_iff.1 (HDS.out F hF).2).1; omega) (by have := (HDS.out F hF).1; omega)).trans (HK.out.block F (Array.getElem?_eq_some_iff.1 (HDS.out F hF).2).1)) hK (by omega) (show w.heap.size + 2 ≤ D by omega))
              have HBB := hide (HB8.out.trans (r6.mono (m := w.heap.size) (by omega) (fun j hj h => h.resolve_right (by omega))))
              have HDD := hide (show (dn ++ ys) ++ runs f s (xs.drop xs.length) = runs f s xs by rw [List.append_assoc, ← HNX.out, HDN.out])
              have c1 := HT.out.cell
              have c2 := r4.cell
              have R1 := hide r1
              have R3 := hide r3
              have R4 := hide r4
              have R5 := hide r5
              have CC := hide (And.intro c1 c2)
              clear r1 r3 r4 r5 r6 hK c1 c2
              go_wp2
              refine ⟨⟨xs.length, D :: Ds, dn ++ ys, zs', _, _, _, _, _, _, _, _, _, _, _, _, _, _, _, _, _, _, _, _, _, _, _, _, _, _, _, _, _, _, _, _, _, _, _, _, rfl, by omega, by rw [List.length_append]; omega, HDD.out, R1.out, r2, R3.out, R5.out, R4.out, HBB.out, HX.out.1, HX.out.2⟩, ?_⟩
              rw [CC.out.1, CC.out.2]
              simp [intOf]
              omega
            case hstop =>
              rintro D c pre W' hD hpx h hK
              exact h.elim
          · skip
            have K : Below W.heap.size W W.drew := (Below.refl _ _).drew
            have HT := hide bT
            have CF := hide (fun U (k' : Below W.heap.size W U) => (k'.cell (p := ⟨w.heap.size + 1, 0, none⟩) HT.out.lt).trans HT.out.cell)
            go_wp2
            first | go_region_held3 (fun u => u.cell? ⟨w.heap.size + 1, 0, none⟩ = some (.int .i64 k))
              (first | with_reducible exact CF.out _ K | go_keep)
              (first | (go_at_call 32; (with_reducible refine itmerged_box.mono ?_); rintro e w8 ⟨rfl, b1, b2, b3, hb⟩; have KX := K; replace K := K.trans (hb.mono K.size); clear hb)) | fail "region"
            have hsz : W.heap.size + 3 ≤ w8.heap.size := by have := b3.lt; simp at this; omega
            have hwW := HB.out.size
            have hbtW := HT.out.lt
            have hB8 : BelX (fun k => k = gi) w.heap.size w w8 := HB.out.trans (BelX.of K hwW)
            have hrow8 : ItRow w8 gi zs := HROW.out.keep (K.block _ HROW.out.lt)
            have bI8 : Boxed w8 w.heap.size 22 (.slice (some ⟨gi, 0, none⟩) xs.length ci) := (K.block _ BI.out.lt).trans BI.out
            have bT8 : Boxed w8 (w.heap.size + 1) 3 (.int .i64 k) := (K.block _ HT.out.lt).trans HT.out
            have RA : ItRd (fun g => g < w8.heap.size ∧ ¬ (g = gi ∨ g = w.heap.size + 1)) w8 (.slice (some ⟨ga, oa + k * 2, none⟩) (xs.length - k) (ca - k)) ((xs.drop k).take s) := sub_rd IA.out hB8 ga1 ga2 ⟨by omega, by omega⟩ (run_al xs HM.out) (by omega) (by omega) (run_a xs HM.out) (by omega) (by unfold maxLen; omega)
            have RB : ItRd (fun g => g < w8.heap.size ∧ ¬ (g = gi ∨ g = w.heap.size + 1)) w8 (.slice (some ⟨ga, oa + xs.length * 2, none⟩) 0 (ca - xs.length)) (((xs.drop k).drop s).take s) := nil_rd (by omega) (List.eq_nil_of_length_eq_zero (by rw [run_bl xs HM.out HE.out]; omega)) (by unfold maxLen; omega)
            have hI8 := hide (HI.out w w8 HIw.out hB8)
            have hIm := hide (fun (U U' : World) (h : I U) (kk : BelX (fun k => k = gi ∨ k = w.heap.size + 1) w8.heap.size U U') => HI.out U U' h (kk.mono (m := w.heap.size) (by omega) (fun j hj h => h.resolve_right (by omega))))
            have hseq := itmerged_stops (n := 3) (X := (fun k => k = gi ∨ k = w.heap.size + 1)) (n₀ := w8.heap.size) (by omega) b1 b2 b3 ⟨by have := b1.lt; simpa using this, by simp; omega⟩ ⟨by have := b2.lt; simpa using this, by simp; omega⟩ ⟨by have := b3.lt; simpa using this, by simp; omega⟩ RA RB HCC.out hI8.out hIm.out (Nat.le_refl _) (by rw [run_al xs HM.out]; omega) (by rw [run_bl xs HM.out HE.out]; omega)
            obtain ⟨Z, hZ⟩ : ∃ Z, mrg f ((xs.drop k).take s) (((xs.drop k).drop s).take s) = Z := ⟨_, rfl⟩
            have hZl : Z.length = xs.length - k := by rw [← hZ, mrg_len, run_al xs HM.out, run_bl xs HM.out HE.out]; omega
            have hN : ((xs.drop k).take s).length + (((xs.drop k).drop s).take s).length = xs.length - k := by rw [run_al xs HM.out, run_bl xs HM.out HE.out]; omega
            have hnx := run_next f hs hkl HM.out HE.out
            rw [hZ, hN] at hseq
            rw [hZ] at hnx
            have HSEQ := hide hseq
            have HNX := hide hnx
            have HK := hide K
            have HB8 := hide hB8
            clear hseq hnx K hB8 RA RB hZ hN b1 b2 b3 hI8 hIm CF KX
            have hgi8 : gi < w8.heap.size := by omega
            have hbt8 : w.heap.size + 1 < w8.heap.size := by omega
            have hbi8 : w.heap.size < w8.heap.size := by omega
            go_wp2_with fail
            refine (wpIn_wide (n := 4)).1 ?_
            refine' wpIn_rangeFunc_ownH rfl (by omega) (gf := 38) (lb := #[.pointer (some ⟨W.heap.size, 0, none⟩), .pointer (some ⟨W.heap.size + 1, 0, none⟩), .pointer (some ⟨W.heap.size + 2, 0, none⟩)]) (by simp [go_sem]) trivial (enters_of Try.func38 (by kernel_rfl) rfl)
              HSEQ.out BelX.trans (fun W l o o' hl _ _ _ => belx_putObj o' hl) (Below.refl _ _) (fun _ => rfl)
              (fun pre W' => OI gi (w.heap.size + 1) w.heap.size ci xs.length k dn w8 pre W')
              (fun _ _ _ => False) (oi_own (by omega) (by omega) (by omega)) (fun _ _ _ _ _ hs _ _ => hs) (oi_start hrow8 hzl HZT.out bT8 bI8)
              (fun x a' W' => ∃ Bx, w8.heap.size ≤ Bx ∧ W'.heap[Bx]? = some (.cells #[.int .i64 x.1, .int .i64 x.2] 29 (0, 0)) ∧ a' = { tmps := #[.slice (some ⟨gi, 0, none⟩) xs.length ci, .slice (some ⟨ga, oa, none⟩) xs.length ca, .int .i64 s, .func (.func cg) #[] cl, .pointer (some ⟨w.heap.size, 0, none⟩), undef, undef, undef, .pointer (some ⟨w.heap.size + 1, 0, none⟩), .int .i64 xs.length, .int .i64 xs.length, .pointer (some ⟨Bx, 0, none⟩), .int .i64 k, .slice (some ⟨ga, oa, none⟩) xs.length ca, .int .i64 xs.length, .bool true, .int .i64 k, .int .i64 s, .int .i64 ((k : Int) + (s : Int)), .slice (some ⟨ga, oa, none⟩) xs.length ca, .int .i64 xs.length, .int .i64 xs.length, .int .i64 xs.length, .int .i64 s, .int .i64 ((xs.length : Int) + (s : Int)), .slice (some ⟨ga, oa, none⟩) xs.length ca, .int .i64 xs.length, .int .i64 xs.length, .slice (some ⟨ga, oa, none⟩) xs.length ca, .int .i64 k, .int .i64 xs.length, .slice (some ⟨ga, oa + k * 2, none⟩) (xs.length - k) (ca - k), .slice (some ⟨ga, oa, none⟩) xs.length ca, .int .i64 xs.length, .int .i64 xs.length, .slice (some ⟨ga, oa + xs.length * 2, none⟩) 0 (ca - xs.length), .func (.func cg) #[] cl, .func (.func 38) #[] #[.pointer (some ⟨W.heap.size, 0, none⟩), .pointer (some ⟨W.heap.size + 1, 0, none⟩), .pointer (some ⟨W.heap.size + 2, 0, none⟩)], itV x, x39, x40, x41, x42, x43, x44], defers := [] }) ?hAx ?hassign ?hbody ?hdone ?hstop
            case hAx =>
              rintro x a' u X Y row ⟨Bx, h1, h2, h3⟩ hg hr
              exact ⟨Bx, h1, (hg.block Bx (Array.getElem?_eq_some_iff.1 h2).1 (fun e => by obtain ⟨_, o, ho, hc⟩ := hr Bx e.symm; rw [h2] at ho; cases ho; cases hc)).trans h2, h3⟩
            case hassign =>
              rintro l pre x W' K hi hK
              gi_wp2
              have hs8 := hi.choose_spec.2.2.2.2.2.size
              exact hK _ _ ((KeepsOthers.alloc _ _).from _) (BelX.of ((Below.refl _ W').alloc (Nat.le_refl _) _) hs8) (oi_own hgi8 hbt8 hbi8 pre W' _ none hi (World.grownBy_alloc _ _ none) (fun r e => by cases e)) ⟨W'.heap.size, hs8, World.alloc_heap_new W' _, rfl⟩
            case hbody =>
              rintro l pre x a' W' hl hr ⟨zs', r1, r2, r3, r4, r5, r6⟩ ⟨Bx, hBx, hx0, rfl⟩ hlt
              have c4 := r4.cell
              have c5 := r5.cell
              have f4 := r4.frozen
              obtain ⟨m, hm⟩ : ∃ m, k + pre.length = m := ⟨_, rfl⟩
              rw [hm] at c4 r3 r4
              have hml : m < xs.length := by omega
              have q6 : (m : Int) < (xs.length : Int) := by omega
              have fz0 := r1.frozen (m * 2)
              have fz1 := r1.frozen (m * 2 + 1)
              obtain ⟨cz0, cz1⟩ := r1.cell (i := m) (by omega)
              have cx0 := cell_of_row W' _ 0 _ _ _ hx0
              have cx1 := cell_of_row W' _ 1 _ _ _ hx0
              obtain ⟨x1, x2⟩ := x
              simp at cx0 cx1
              have HR1 := hide r1
              have HR3 := hide r3
              have HR4 := hide r4
              have HR5 := hide r5
              have HR6 := hide r6
              have HMM := hide hm
              have HX0 := hide hx0; clear hx0; clear r1 r3 r4 r5 r6 hm
              have HOI := hide (oi_step ⟨zs', HR1.out, r2, by rw [HMM.out]; exact HR3.out, by rw [HMM.out]; exact HR4.out, HR5.out, HR6.out⟩ HMM.out hml (by omega) (by omega) (by omega) (x1, x2))
              gi_wp2
              exact ⟨HOI.out.2.2, HOI.out.2.1, HOI.out.1⟩
            case hdone =>
              rintro D ys W' hD rfl ⟨zs', r1, r2, r3, r4, r5, r6⟩ hK
              have hkE : k + ys.length = xs.length := by omega
              rw [hkE] at r3 r4
              have HX := hide (marks_more HDS.out hnd (fun F hF => (r6.block F (by have := (Array.getElem?_eq_some_iff.1 (HDS.out F hF).2).1; omega) (by have := (HDS.out F hF).1; omega)).trans (HK.out.block F (Array.getElem?_eq_some_iff.1 (HDS.out F hF).2).1)) hK (by omega) (show w.heap.size + 2 ≤ D by omega))
              have HBB := hide (HB8.out.trans (r6.mono (m := w.heap.size) (by omega) (fun j hj h => h.resolve_right (by omega))))
              have HDD := hide (show (dn ++ ys) ++ runs f s (xs.drop xs.length) = runs f s xs by rw [List.append_assoc, ← HNX.out, HDN.out])
              have c1 := HT.out.cell
              have c2 := r4.cell
              have R1 := hide r1
              have R3 := hide r3
              have R4 := hide r4
              have R5 := hide r5
              have CC := hide (And.intro c1 c2)
              clear r1 r3 r4 r5 r6 hK c1 c2
              go_wp2
              refine ⟨⟨xs.length, D :: Ds, dn ++ ys, zs', _, _, _, _, _, _, _, _, _, _, _, _, _, _, _, _, _, _, _, _, _, _, _, _, _, _, _, _, _, _, _, _, _, _, _, _, rfl, by omega, by rw [List.length_append]; omega, HDD.out, R1.out, r2, R3.out, R5.out, R4.out, HBB.out, HX.out.1, HX.out.2⟩, ?_⟩
              rw [CC.out.1, CC.out.2]
              simp [intOf]
              omega
            case hstop =>
              rintro D c pre W' hD hpx h hK
              exact h.elim
    · obtain rfl : k = xs.length := by omega
      have hzz : zs = runs f s xs := by rw [← hdn, ← hzt, List.drop_length, runs_nil, List.append_nil, ← hzl, List.take_length]
      go_wp2
      refine marks_leave (A := w.heap.size + 2) (Inv := fun u => ItRow u gi zs ∧ BelX (fun k => k = gi) w.heap.size w u) ?_ ?_ Ds _ hDs hnd ⟨hrow, hB⟩
      · rintro u D ⟨i1, i2⟩ hD hu
        exact ⟨i1.keep (World.putObj_heap_other (fun e => by omega)), i2.trans (belx_putObj _ (by omega))⟩
      · rintro u ⟨i1, i2⟩
        exact ⟨_, results_none rfl _ _ _, rfl, by rw [← hzz]; exact i1, i2⟩

end Go.Proofs.Ytboikfcmbfaaeaa

namespace Go.Proofs.Ytboikfcmbfaaeaa
open Go.RowKit Go.Shelf
set_option linter.unusedVariables false

abbrev ntV (x : Int) : Value := .int .i64 x
abbrev ntEncs (x : Int) : Array Value := #[ntV x]
def NtIn (w : World) (g o : Nat) (xs : List Int) : Prop := ∀ i (h : i < xs.length), w.cell? ⟨g, o + i, none⟩ = some (.int .i64 xs[i])
def NtRd (G : Nat → Prop) (w : World) (v : Value) (xs : List Int) : Prop :=
  ∃ ao cap, v = .slice ao xs.length cap ∧ xs.length ≤ cap ∧ cap ≤ maxLen ∧ (0 < xs.length → ∃ g o, ao = some ⟨g, o, none⟩ ∧ G g ∧ g < w.heap.size ∧ NtIn w g o xs)
theorem NtRd.belx {X G : Nat → Prop} {n : Nat} {w w' : World} {v : Value} {xs : List Int} (h : NtRd G w v xs) (hb : BelX X n w w') (hG : ∀ g, G g → g < n ∧ ¬ X g) : NtRd G w' v xs := by
  obtain ⟨ao, cap, h1, h2, h3, h4⟩ := h
  refine ⟨ao, cap, h1, h2, h3, fun hp => ?_⟩
  obtain ⟨g, o, e, hg, hl, hi⟩ := h4 hp
  refine ⟨g, o, e, hg, Nat.lt_of_lt_of_le hl hb.size, fun i hi' => ?_⟩
  have q := hG g hg
  exact (hb.cell (p := ⟨g, _, none⟩) q.1 q.2).trans (hi i hi')
theorem NtRd.below {G : Nat → Prop} {w w' : World} {v : Value} {xs : List Int} (h : NtRd G w v xs) (hb : Below w.heap.size w w') : NtRd G w' v xs := by
  obtain ⟨ao, cap, h1, h2, h3, h4⟩ := h
  refine ⟨ao, cap, h1, h2, h3, fun hp => ?_⟩
  obtain ⟨g, o, e, hg, hl, hi⟩ := h4 hp
  refine ⟨g, o, e, hg, Nat.lt_of_lt_of_le hl hb.size, fun i hi' => ?_⟩
  exact (hb.cell (p := ⟨g, _, none⟩) hl).trans (hi i hi')
theorem NtRd.mono {G H : Nat → Prop} {w : World} {v : Value} {xs : List Int} (h : NtRd G w v xs) (hG : ∀ g, g < w.heap.size → G g → H g) : NtRd H w v xs := by
  obtain ⟨ao, cap, h1, h2, h3, h4⟩ := h
  refine ⟨ao, cap, h1, h2, h3, fun hp => ?_⟩
  obtain ⟨g, o, e, hg, hl, hi⟩ := h4 hp
  exact ⟨g, o, e, hG g hl hg, hl, hi⟩
/-- an order of ints that is handed in, for ints below n -/
structure CmpIsN (I : World → Prop) (cv : Value) (n : Nat) (f : Int → Int → Int) : Prop where
  val : ∃ g lb, cv = .func (.func g) #[] lb ∧ (∀ args w, (callFunc g args).run Try.prog w = .ok (.enter g args) w) ∧
    ∀ (W : World) (a b : Int), I W → 0 ≤ a → a < (n : Int) → 0 ≤ b → b < (n : Int) → Calls Try.prog g (#[ntV a, ntV b] ++ lb) W fun e W' => e = .returned (.int .i64 (f a b)) ∧ Below W.heap.size W W'

def flatN (xs : List Int) : List Value := xs.map (Value.int .i64)
theorem flatN_len (xs : List Int) : (flatN xs).length = xs.length := by simp [flatN]
def NtRow (w : World) (g : Nat) (xs : List Int) : Prop := w.heap[g]? = some (.cells (flatN xs).toArray 3 (0, 0))
theorem NtRow.lt {w : World} {g : Nat} {xs : List Int} (h : NtRow w g xs) : g < w.heap.size := (Array.getElem?_eq_some_iff.1 h).1
theorem NtRow.cell {w : World} {g : Nat} {xs : List Int} (h : NtRow w g xs) {i : Nat} (hi : i < xs.length) : w.cell? ⟨g, i, none⟩ = some (.int .i64 xs[i]) := by
  rw [cell_of_row w g i _ _ _ h]; simp [flatN, hi]
theorem NtRow.frozen {w : World} {g : Nat} {xs : List Int} (h : NtRow w g xs) (i : Nat) : w.frozen? ⟨g, i, none⟩ = false := frozen_of_row w g i _ _ h
theorem NtRow.set {w : World} {g : Nat} {xs : List Int} (h : NtRow w g xs) {i : Nat} (hi : i < xs.length) (x : Int) : NtRow (w.setCell ⟨g, i, none⟩ (.int .i64 x)) g (xs.set i x) := by
  unfold NtRow
  rw [heap_setCell_same w g i _ _ _ h]
  simp [flatN, List.map_set]
theorem NtRow.keep {w w' : World} {g : Nat} {xs : List Int} (h : NtRow w g xs) (e : w'.heap[g]? = w.heap[g]?) : NtRow w' g xs := e.trans h
theorem NtRow.rd {w : World} {g c : Nat} {xs : List Int} (h : NtRow w g xs) {G : Nat → Prop} (hG : G g) (h1 : xs.length ≤ c) (h2 : c ≤ maxLen) : NtRd G w (.slice (some ⟨g, 0, none⟩) xs.length c) xs :=
  ⟨_, c, rfl, h1, h2, fun _ => ⟨g, 0, rfl, hG, h.lt, fun i hi => by simpa using h.cell hi⟩⟩
theorem sub_rdN {w U : World} {gi ga oa ca k M : Nat} {xs ys : List Int} {G : Nat → Prop} (ia : NtIn w ga oa xs) (hB : BelX (fun k => k = gi) w.heap.size w U) (ga1 : ga ≠ gi) (ga2 : ga < w.heap.size) (hG : G ga) (hl : ys.length = M - k) (hk : k ≤ M) (hM : M ≤ xs.length) (hg : ∀ i, i < M - k → ys[i]? = xs[k + i]?) (hc : M ≤ ca) (hcm : ca ≤ maxLen) :
    NtRd G U (.slice (some ⟨ga, oa + k, none⟩) (M - k) (ca - k)) ys := by
  refine ⟨_, ca - k, by rw [hl], by omega, by omega, fun hp => ⟨ga, _, rfl, hG, Nat.lt_of_lt_of_le ga2 hB.size, fun i hi => ?_⟩⟩
  have e := hg i (by omega)
  rw [List.getElem?_eq_getElem hi, List.getElem?_eq_getElem (by omega)] at e
  injection e with e
  have q := ia (k + i) (by omega)
  rw [e, show oa + k + i = oa + (k + i) by omega]
  exact (hB.cell (p := ⟨ga, _, none⟩) ga2 ga1).trans q
theorem nil_rdN {U : World} {ao : Option Addr} {n c : Nat} {ys : List Int} {G : Nat → Prop} (hn : n = 0) (hy : ys = []) (hc : c ≤ maxLen) : NtRd G U (.slice ao n c) ys := by
  subst hn hy
  exact ⟨ao, c, rfl, Nat.zero_le _, hc, fun h => absurd h (by simp)⟩

end Go.Proofs.Ytboikfcmbfaaeaa

namespace Go.Proofs.Ytboikfcmbfaaeaa
open Go.RowKit Go.Shelf
set_option linter.unusedVariables false
section
variable {F : Fence} {n : Nat} {P : Program} {ops : Array Oper} {Q : Exit → Act → World → Prop} {md : Region.Mode} {C : World → Prop} {D : Nat → Bool}

/-- no operation defers: each is carried out in a round as anywhere -/
def oNoDefer (ops : Array Oper) : Bool := ops.all fun o => match o.op with | .defer _ => false | _ => true
theorem sem_plain (h : oNoDefer ops = true) {j : Nat} {o : Oper} (hj : ops[j]? = some o) (ρ : Operand → Value) : Oper.semAt F.round ρ o = execOp ρ o := by
  have hd : ∀ c, o.op ≠ .defer c := fun c e => by
    have := Array.all_eq_true_iff_forall_mem.1 h o (Array.mem_of_getElem? hj)
    simp [e] at this
  cases F.round with
  | none => rw [Oper.semAt_none]
  | some l => exact Oper.semAt_some l ρ o hd
/-- what may be told of the frame behind one operation -/
def Behind (o : Oper) (a a' : Act) : Prop := ∃ ds u, a' = ({ a with defers := ds } : Act).put o.dst u
theorem behind_put (o : Oper) (a : Act) (u : Value) : Behind o a (a.put o.dst u) := ⟨a.defers, u, rfl⟩

theorem held_put {j : Nat} {oi oj : Oper} {v : Value} (hro : oNoDefer ops = true) (hj : ops[j]? = some oj) (hap : oi.apart ops oj = true) (hsj : ∀ cs b, oj.op ≠ .select cs b)
    (hQ : ∀ c a w, Q (.panic c) (a.put oi.dst v) w → Q (.panic c) a w) {K : Act → World → Prop} {a : Act} {w : World} (h : wpOpIn F n P ops Q j K (a.put oi.dst v) w) :
    wpOpIn F n P ops Q j (fun a' w' => Behind oj a a' ∧ K (a'.put oi.dst v) w') a w := by
  obtain ⟨h1, h2, -⟩ := Oper.apart_spec hap
  have put : ∀ {b : Act} {u : Value} {w' : World}, K ((b.put oi.dst v).put oj.dst u) w' → K ((b.put oj.dst u).put oi.dst v) w' := fun {b u w'} k => by rw [← Act.put_comm b v u h2]; exact k
  unfold wpOpIn at h ⊢
  simp only [hj, wanted_put oj a oi.dst v h1, about_put oj w a oi.dst v h1] at h ⊢
  by_cases hw : Region.wanted oj (yielded ops a.tmps) = true
  · simp only [hw, if_true, Oper.wpIn, about_put oj w a oi.dst v h1, sem_plain hro hj, execOp_put oj hsj a oi.dst v h1] at h ⊢
    refine ⟨h.1, ?_⟩
    have h := h.2
    revert h
    cases (execOp a.eval oj).run P w with
    | ok x w' =>
      cases x <;> simp only [Oper.uponIn] <;> intro h
      case value u => exact ⟨behind_put oj a u, put h⟩
      case skip => exact ⟨behind_put oj a undef, put h⟩
      case defer d => exact ⟨⟨_, undef, rfl⟩, put (b := { a with defers := d :: a.defers }) (by rw [← Act.put_defers]; exact h)⟩
      case enter f args =>
        refine ⟨h.1, h.2.mono fun e w'' k => ?_⟩
        cases e with
        | returned u => exact ⟨behind_put oj a u, put k⟩
        | panicked c => exact hQ _ _ _ k
        | outgrown => exact k
      case row r args => exact ⟨h.1, RowsIn.mono h.2 fun u w'' k => ⟨behind_put oj a u, put k⟩⟩
      case round l f tmps assign body =>
        refine ⟨h.1, h.2.mono fun e w'' k => ?_⟩
        cases e with
        | returned u => exact ⟨behind_put oj a u, put k⟩
        | panicked c => exact hQ _ _ _ k
        | outgrown => exact k
      all_goals exact h
    | halt x w' =>
      cases x <;> simp only [Oper.uponIn] <;> intro h
      case panic u => exact hQ _ _ _ h
      all_goals exact h
  · simp only [hw] at h ⊢
    exact ⟨h.1, behind_put oj a undef, put h.2⟩

/-- in this frame the operation leaves v, in every world of which C holds, and calls nothing -/
def YieldsAt (P : Program) (ops : Array Oper) (C : World → Prop) (o : Oper) (v : Value) (a : Act) : Prop := YieldsIf P ops C o v a ∧ ∀ w, o.about P w a.eval = none
theorem YieldsAt.behind {oi oj : Oper} {v : Value} {a a' : Act} (h : YieldsAt P ops C oi v a) (hs : ∀ cs b, oi.op ≠ .select cs b) (hap : oi.apart ops oj = true) (hb : Behind oj a a') : YieldsAt P ops C oi v a' := by
  obtain ⟨ds, u, rfl⟩ := hb
  have h3 := (Oper.apart_spec hap).2.2
  exact ⟨h.1.of_same (execOp_put oi hs { a with defers := ds } oj.dst u h3) (wanted_put oi { a with defers := ds } oj.dst u h3), fun w => (about_put oi w { a with defers := ds } oj.dst u h3).trans (h.2 w)⟩
theorem YieldsAt.go {i : Nat} {o : Oper} {v : Value} {a : Act} (hro : oNoDefer ops = true) (hi : ops[i]? = some o) (hy : YieldsAt P ops C o v a) {K : Act → World → Prop} {w : World} (hC : C w) (h : K (a.put o.dst v) w) : wpOpIn F n P ops Q i K a w := by
  have hab : ∀ f, o.about P w a.eval = some f → F.fn f := fun f hf => by rw [hy.2 w] at hf; cases hf
  unfold wpOpIn
  simp only [hi]
  rcases hy.1 with ⟨hw, hv⟩ | ⟨hw, rfl⟩
  · simp only [hw, if_true, Oper.wpIn, sem_plain hro hi, hv w hC, Oper.uponIn]
    exact ⟨hab, h⟩
  · simp only [hw, Bool.false_eq_true, if_false]
    exact ⟨hab, h⟩

/-- whatever order is picked; C holds behind every operation that is none of D -/
def wpHeld (F : Fence) (n : Nat) (P : Program) (md : Region.Mode) (ops : Array Oper) (Q : Exit → Act → World → Prop) (C : World → Prop) (D : Nat → Bool) : Nat → Array Bool → Act → World → Prop
  | 0, listed, a, w => Region.ready md ops listed = [] ∧ Q .normal a w
  | fuel + 1, listed, a, w => (Region.ready md ops listed = [] → Q .normal a w) ∧
    ∀ i ∈ Region.ready md ops listed, wpOpIn F n P ops Q i (fun a' w' => (D i = false → C w') ∧ wpHeld F n P md ops Q C D fuel (listed.setIfInBounds i true) a' w') a w
theorem wpHeld.any : ∀ (fuel : Nat) (listed : Array Bool) (a : Act) (w : World), wpHeld F n P md ops Q C D fuel listed a w → wpAnyIn F n P md ops Q fuel listed a w
  | 0, _, _, _, h => h
  | fuel + 1, _, _, _, h => ⟨h.1, fun i hi => wpOpIn_mono (fun a' w' k => wpHeld.any fuel _ a' w' k.2) (h.2 i hi)⟩
theorem wpHeld.region {id : Nat} {a : Act} {w : World} (hm : P.follows .mixedOrders = true) (h : wpHeld F n P .any ops Q C D ops.size (Array.replicate ops.size false) a w.drew) : (Code.region id ops true).wpIn F n P Q a w :=
  wpIn_region_any hm (wpHeld.any _ _ _ _ h)
theorem wpHeld.done {listed : Array Bool} {a : Act} {w : World} (hr : Region.ready md ops listed = []) (h : Q .normal a w) : ∀ fuel, wpHeld F n P md ops Q C D fuel listed a w
  | 0 => ⟨hr, h⟩
  | _ + 1 => ⟨fun _ => h, by rw [hr]; simp⟩
theorem wpHeld.one {i : Nat} {fuel : Nat} {listed : Array Bool} {a : Act} {w : World} {o : Oper} (hr : Region.ready md ops listed = [i]) (ho : ops[i]? = some o)
    (h : ∀ K : Act → World → Prop, (∀ a' w', (D i = false → C w') ∧ wpHeld F n P md ops Q C D fuel (listed.setIfInBounds i true) a' w' → K a' w') → if Region.wanted o (yielded ops a.tmps) = true then Oper.wpIn F n P o a w K Q else (∀ f, o.about P w a.eval = some f → F.fn f) ∧ K (a.put o.dst undef) w) :
    wpHeld F n P md ops Q C D (fuel + 1) listed a w :=
  ⟨fun h0 => (by rw [hr] at h0; cases h0), fun j hj => by
    rw [hr, List.mem_singleton] at hj
    subst hj
    exact wpOpIn_step ho h⟩

/-- an operation that may come up is taken first, if none of D can come ahead of it -/
theorem wpHeld.first {i : Nat} {oi : Oper} {v : Value} {R : Nat → Bool} (hro : oNoDefer ops = true) (hi : ops[i]? = some oi) (hsel : ∀ (j : Nat) (o : Oper) cs b, ops[j]? = some o → o.op ≠ .select cs b)
    (hQ : ∀ c a w, Q (.panic c) (a.put oi.dst v) w → Q (.panic c) a w) (hR : ∀ j oj, ops[j]? = some oj → j ≠ i → (∀ e ∈ oj.after, Region.binds md e = true → R e.on = true) → R j = true) (hD : ∀ j, R j = true → D j = false) (hDi : D i = false) :
    ∀ (fuel : Nat) (listed : Array Bool) (a : Act) (w : World), (∀ j oj, ops[j]? = some oj → j ≠ i → listed.getD j true = false → (∀ e ∈ oj.after, Region.binds md e = true → e.on ≠ i) → oi.apart ops oj = true) →
      (∀ k, listed.getD k false = true → R k = true) → i ∈ Region.ready md ops listed → YieldsAt P ops C oi v a → C w →
      wpHeld F n P md ops Q C D fuel (listed.setIfInBounds i true) (a.put oi.dst v) w → wpHeld F n P md ops Q C D (fuel + 1) listed a w := by
  intro fuel
  induction fuel with
  | zero =>
    intro listed a w _ _ hr hy hC H
    refine ⟨fun h => (by rw [h] at hr; cases hr), fun j hj => ?_⟩
    by_cases hji : j = i
    · subst hji
      exact hy.go hro hi hC ⟨fun _ => hC, H⟩
    · have := ready_mono hj hji
      rw [H.1] at this
      cases this
  | succ fuel ih =>
    intro listed a w hfree hl hr hy hC H
    refine ⟨fun h => (by rw [h] at hr; cases hr), fun j hj => ?_⟩
    by_cases hji : j = i
    · subst hji
      exact hy.go hro hi hC ⟨fun _ => hC, H⟩
    · obtain ⟨hjun, oj, hoj, hall⟩ := mem_ready.1 hj
      have hiun := (mem_ready.1 hr).1
      have hnot : ∀ e ∈ oj.after, Region.binds md e = true → e.on ≠ i := fun e he hb heq => by
        have h1 := hall e he hb
        rw [heq] at h1
        rcases Nat.lt_or_ge i listed.size with h' | h'
        · simp [h'] at hiun h1
          rw [hiun] at h1
          cases h1
        · simp [Array.getElem?_eq_none h'] at h1
      have hap := hfree j oj hoj hji hjun hnot
      have hRj : R j = true := hR j oj hoj hji (fun e he hb => hl _ (hall e he hb))
      have h2 := held_put hro hoj hap (fun cs b => hsel j oj cs b hoj) hQ (H.2 j (ready_mono hj hji))
      refine wpOpIn_mono (fun a' w' k => ?_) h2
      obtain ⟨hb, hc, hk⟩ := k
      refine ⟨hc, ih (listed.setIfInBounds j true) a' w' (fun k ok hk' hki hun hno => hfree k ok hk' hki ?_ hno) (fun k hk' => ?_) (ready_mono hr (Ne.symm hji)) (hy.behind (fun cs b => hsel i oi cs b hi) hap hb) (hc (hD j hRj)) ?_⟩
      · by_cases hjk : j = k
        · subst hjk; exact hjun
        · rw [getD_set_ne true hjk] at hun; exact hun
      · by_cases hjk : j = k
        · subst hjk; exact hRj
        · rw [getD_set_ne false hjk] at hk'; exact hl k hk'
      · rw [Array.setIfInBounds_comm _ _ hji]
        exact hk
/-- once all but D's have come up, another word may be held -/
theorem wpHeld.change {C' : World → Prop} {D' : Nat → Bool} : ∀ (fuel : Nat) (listed : Array Bool) (a : Act) (w : World), (∀ i, D i = false → listed.getD i true = true) → wpHeld F n P md ops Q C' D' fuel listed a w → wpHeld F n P md ops Q C D fuel listed a w
  | 0, _, _, _, _, h => h
  | fuel + 1, listed, a, w, hl, h => by
    refine ⟨h.1, fun i hi => wpOpIn_mono (fun a' w' k => ?_) (h.2 i hi)⟩
    have h1 := (mem_ready.1 hi).1
    refine ⟨fun hd => ?_, wpHeld.change fuel _ a' w' (fun j hj => ?_) k.2⟩
    · rw [hl i hd] at h1
      cases h1
    · by_cases hij : i = j
      · subst hij
        rw [hl i hj] at h1
        cases h1
      · rw [getD_set_ne true hij]
        exact hl j hj
/-- what can come up while number i does not -/
def oReach (md : Region.Mode) (ops : Array Oper) (i : Nat) : Nat → List Nat → List Nat
  | 0, L => L
  | k + 1, L => oReach md ops i k ((List.range ops.size).filter fun j => L.contains j || (j != i && (ops[j]?).any (fun o => o.after.all fun e => !Region.binds md e || L.contains e.on)))
def oHeldB (md : Region.Mode) (ops : Array Oper) (D : Nat → Bool) (listed : Array Bool) (i : Nat) (L : List Nat) : Bool :=
  (List.range ops.size).all (fun j => j == i || L.contains j || (ops[j]?).any (fun o => o.after.any fun e => Region.binds md e && !L.contains e.on)) && L.all (fun j => !D j) && (List.range listed.size).all (fun k => !listed.getD k false || L.contains k) && !D i
theorem wpHeld.take {i : Nat} {oi : Oper} {v : Value} {fuel : Nat} {listed : Array Bool} {a : Act} {w : World} (hro : oNoDefer ops = true) (hi : ops[i]? = some oi) (hs : Region.noSelect ops = true) (hf : Region.free md ops listed i = true) (hr : (Region.ready md ops listed).contains i = true)
    (hB : oHeldB md ops D listed i (oReach md ops i ops.size ((List.range listed.size).filter fun k => listed.getD k false)) = true) (hQ : ∀ c a w, Q (.panic c) (a.put oi.dst v) w → Q (.panic c) a w) (hy : YieldsAt P ops C oi v a) (hC : C w)
    (h : wpHeld F n P md ops Q C D fuel (listed.setIfInBounds i true) (a.put oi.dst v) w) : wpHeld F n P md ops Q C D (fuel + 1) listed a w := by
  generalize oReach md ops i ops.size _ = L at hB
  simp only [oHeldB, Bool.and_eq_true, List.all_eq_true, List.mem_range, Bool.or_eq_true, beq_iff_eq, Bool.not_eq_true'] at hB
  obtain ⟨⟨⟨b1, b2⟩, b3⟩, b4⟩ := hB
  refine wpHeld.first (R := fun k => L.contains k) hro hi (Region.noSelect_spec hs) hQ (fun j oj hj hji hall => ?_) (fun j hj => b2 j (by simpa using hj)) b4 fuel listed a w (Region.free_spec hi hf) (fun k hk => ?_) (by simpa using hr) hy hC h
  · rcases b1 j (Array.getElem?_eq_some_iff.1 hj).1 with (e | e) | e
    · exact absurd e hji
    · exact e
    · rw [hj] at e
      simp only [Option.any_some, Array.any_eq_true] at e
      obtain ⟨k, hk, e⟩ := e
      simp only [Bool.and_eq_true, Bool.not_eq_true'] at e
      have := hall _ (Array.getElem_mem hk) e.1
      rw [this] at e
      exact absurd e.2 (by simp)
  · by_cases hlt : k < listed.size
    · rcases b3 k hlt with e | e
      · rw [hk] at e; cases e
      · exact e
    · rw [Array.getD_eq_getD_getElem?, Array.getElem?_eq_none (by omega)] at hk
      cases hk
theorem wpHeld.tk {i : Nat} {oi : Oper} {d : Option Tmp} {v : Value} {fuel : Nat} {listed : Array Bool} {a : Act} {w : World} (hro : oNoDefer ops = true) (hi : ops[i]? = some oi) (hs : Region.noSelect ops = true) (hf : Region.free md ops listed i = true) (hr : (Region.ready md ops listed).contains i = true)
    (hB : oHeldB md ops D listed i (oReach md ops i ops.size ((List.range listed.size).filter fun k => listed.getD k false)) = true) (hd : oi.dst = d) (hQ : ∀ c a w, Q (.panic c) (a.put d v) w → Q (.panic c) a w) (hy : YieldsAt P ops C oi v a) (hC : C w)
    (h : wpHeld F n P md ops Q C D fuel (listed.setIfInBounds i true) (a.put d v) w) : wpHeld F n P md ops Q C D (fuel + 1) listed a w := by
  subst hd
  exact wpHeld.take hro hi hs hf hr hB hQ hy hC h

end
end Go.Proofs.Ytboikfcmbfaaeaa

namespace Go.Proofs.Ytboikfcmbfaaeaa
open Go.RowKit Go.Shelf
set_option linter.unusedVariables false
set_option linter.unusedSimpArgs false
attribute [local go_sem] Oper.semAt_some

/-- the places of what is alike to the one right ahead -/
def reps {α : Type} (f : α → α → Int) : Nat → List α → List Nat
  | k, x :: y :: t => if f x y = 0 then (k + 1) :: reps f (k + 1) (y :: t) else reps f (k + 1) (y :: t)
  | _, _ => []
theorem reps_yes {α : Type} {f : α → α → Int} {xs : List α} {i : Nat} (h : i + 1 < xs.length) (hf : f xs[i] xs[i + 1] = 0) : reps f i (xs.drop i) = (i + 1) :: reps f (i + 1) (xs.drop (i + 1)) := by
  rw [List.drop_eq_getElem_cons (show i < xs.length by omega), List.drop_eq_getElem_cons h, reps, if_pos hf]
theorem reps_no {α : Type} {f : α → α → Int} {xs : List α} {i : Nat} (h : i + 1 < xs.length) (hf : ¬ f xs[i] xs[i + 1] = 0) : reps f i (xs.drop i) = reps f (i + 1) (xs.drop (i + 1)) := by
  rw [List.drop_eq_getElem_cons (show i < xs.length by omega), List.drop_eq_getElem_cons h, reps, if_neg hf]
theorem reps_end {α : Type} {f : α → α → Int} {xs : List α} {i : Nat} (h : ¬ i + 1 < xs.length) : reps f i (xs.drop i) = [] := by
  by_cases h2 : i < xs.length
  · rw [List.drop_eq_getElem_cons h2, List.drop_eq_nil_of_le (by omega), reps]
    intro x y t e
    cases e
  · rw [List.drop_eq_nil_of_le (by omega), reps]
    intro x y t e
    cases e
theorem reps_len {α : Type} (f : α → α → Int) (k : Nat) (xs : List α) : (reps f k xs).length ≤ xs.length := by
  fun_induction reps f k xs with
  | case1 k x y t h ih => simp at ih ⊢; omega
  | case2 k x y t h ih => simp at ih ⊢; omega
  | case3 => simp
theorem yield_one {e : Ending} {A B : Prop} (h : (e = .returned (.bool true) ∧ A) ∨ (e = .returned (.bool false) ∧ B)) : ∃ b, e = .returned (.bool b) ∧ ((b = true ∧ A) ∨ (b = false ∧ B)) := by
  rcases h with ⟨h, a⟩ | ⟨h, a⟩
  · exact ⟨true, h, .inl ⟨rfl, a⟩⟩
  · exact ⟨false, h, .inr ⟨rfl, a⟩⟩
/-- a place in a list of n -/
abbrev Pl (n : Nat) := { x : Nat // x < n }
abbrev plEncs (n : Nat) (x : Pl n) : Array Value := #[.int .i64 (x.1 : Int)]
set_option maxRecDepth 100000 in
set_option maxHeartbeats 1000000 in
theorem ntrep_box {w : World} {ao : Option Addr} {la ca g : Nat} {cs : Array Value} : Calls Try.prog 37 #[.slice ao la ca, .func (.func g) #[] cs] w fun e w' => e = .returned (.func (.func 40) #[] #[.pointer (some ⟨w.heap.size, 0, none⟩), .pointer (some ⟨w.heap.size + 1, 0, none⟩)]) ∧ Boxed w' w.heap.size 63 (.slice ao la ca) ∧ Boxed w' (w.heap.size + 1) 62 (.func (.func g) #[] cs) ∧ Below w.heap.size w w' := by
  go_enter Try.func37, Try.ntmps37
  go_wp2
  go_ret
  refine ⟨rfl, (Boxed.new _ _ _).alloc _, ?_, ((Below.refl _ w).alloc (Nat.le_refl _) _).alloc (by simp) _⟩
  have := Boxed.new (w.alloc (.cells #[.slice ao la ca] 63)) 62 (.func (.func g) #[] cs)
  simpa using this

set_option maxRecDepth 100000 in
set_option maxHeartbeats 16000000 in
theorem ntrep1_in {n l Ba Bc n₀ N m : Nat} {X : Nat → Prop} {I : World → Prop} {w : World} {va cv : Value} {xs : List Int} {f : Int → Int → Int} (hn : 1 ≤ n)
    (bA : Boxed w Ba 63 va) (bC : Boxed w Bc 62 cv) (lA : Ba < n₀ ∧ ¬ X Ba) (lC : Bc < n₀ ∧ ¬ X Bc)
    (ha : NtRd (fun g => g < n₀ ∧ ¬ X g) w va xs) (hc : CmpIsN I cv m f) (hIw : I w) (hI : ∀ W W', I W → BelX X n₀ W W' → I W') (hw : n₀ ≤ w.heap.size) (hN : xs.length ≤ N) (hx : xs.length ≤ 4611686018427387903) (hxm : ∀ x ∈ xs, 0 ≤ x ∧ x < m)
    (J Jx : List (Pl xs.length) → World → Prop) (hY : ∀ pre x W, J pre W → pre.length < N → YieldAt Fence.wide (n - 1) Try.prog l (plEncs xs.length x) W fun e W' =>
      (e = .returned (.bool true) ∧ J (pre ++ [x]) W' ∧ BelX X n₀ W W') ∨ (e = .returned (.bool false) ∧ Jx (pre ++ [x]) W'))
    (W : World) (hJ : AbidesFrom W.heap.size J) (hW : Below w.heap.size w W) (h0 : J [] W) :
    CallsIn Fence.wide n Try.prog 40 #[.func (.yield l) #[] #[], .pointer (some ⟨Ba, 0, none⟩), .pointer (some ⟨Bc, 0, none⟩)] W fun e W' => (∃ v, e = .returned v) ∧
      ((∃ zs : List (Pl xs.length), zs.map Subtype.val = reps f 0 xs ∧ J zs W') ∨ (∃ pre : List (Pl xs.length), pre.map Subtype.val <+: reps f 0 xs ∧ Jx pre W')) := by
  obtain ⟨cg, cl, rfl, eg, hcall⟩ := hc.val
  obtain ⟨ao, ca, rfl, hac, ham, hacl⟩ := ha
  unfold maxLen at ham
  have RA := hide hacl
  have HC := hide hcall
  have HY := hide hY
  have HII := hide hI
  have HIw := hide hIw
  have HJ := hide hJ
  have BA := hide bA
  have BC := hide bC
  have HXM := hide hxm
  clear hacl hcall hY hI hIw hJ bA bC hc hxm
  obtain ⟨Z, hZ⟩ : ∃ Z, reps f 0 xs = Z := ⟨_, rfl⟩
  rw [hZ]
  have HZ := hide hZ
  clear hZ
  refine callsIn_of_wp Try.func40 rfl trivial ?_ rfl
  simp only [Try.ntmps40, List.size_toArray, List.length_cons, List.length_nil, Nat.reduceAdd, Nat.reduceSub, Array.replicate_succ, Array.replicate_zero, List.push_toArray, List.append_toArray, List.nil_append, List.cons_append]
  gi_wp2
  gi_loopw [4] (fun p wr => ∃ (i : Nat) (pre : List (Pl xs.length)), p = .int .i64 ((i + 1 : Nat) : Int) ∧ i ≤ xs.length ∧ Hid (pre.map Subtype.val ++ reps f i (xs.drop i) = Z) ∧ pre.length ≤ i ∧ Hid (BelX X n₀ w wr) ∧ W.heap.size ≤ wr.heap.size ∧ J pre wr)
    (fun p _ => xs.length + 1 - (intOf p).toNat)
  case atStart => exact ⟨0, [], rfl, by omega, hide (by simpa using HZ.out), by simp, hide (BelX.of hW hw), Nat.le_refl _, h0⟩
  case round =>
    obtain ⟨i, pre, rfl, hi, hpre, hpl, hB, hWr, hJw⟩ := hrel
    have bA := hB.out.boxed BA.out lA.1 lA.2
    have bC := hB.out.boxed BC.out lC.1 lC.2
    have cA := bA.cell
    have cC := bC.cell
    by_cases hi1 : i + 1 < xs.length
    · obtain ⟨ga, oa, rfl, Ga, la, ia⟩ := RA.out (by omega)
      have hi2 : i < xs.length := by omega
      obtain ⟨j, hj⟩ : ∃ j, i + 1 = j := ⟨_, rfl⟩
      have hj1 : j < xs.length := by omega
      have q1 : (j : Int) < (xs.length : Int) := by omega
      have q2 : (i : Int) < (xs.length : Int) := by omega
      have q3 : IntKind.i64.wrap ((j : Int) - 1) = (i : Int) := by rw [IntKind.wrap_i64]; omega
      have q4 : (0 : Int) ≤ (i : Int) := by omega
      rw [hj]
      obtain ⟨x1, hx1⟩ : ∃ x, xs[i]'hi2 = x := ⟨_, rfl⟩
      obtain ⟨y1, hy1⟩ : ∃ x, xs[j]'hj1 = x := ⟨_, rfl⟩
      have c1 := (hB.out.cell (p := ⟨ga, _, none⟩) Ga.1 Ga.2).trans (ia i hi2)
      have c2 := (hB.out.cell (p := ⟨ga, _, none⟩) Ga.1 Ga.2).trans (ia j hj1)
      rw [hx1] at c1
      rw [hy1] at c2
      have HJJ := hide hj
      clear hj
      have HXX : Hid (0 ≤ x1 ∧ x1 < (m : Int) ∧ 0 ≤ y1 ∧ y1 < (m : Int)) := hide (by have a := HXM.out _ (List.getElem_mem hi2); have b := HXM.out _ (List.getElem_mem hj1); rw [hx1] at a; rw [hy1] at b; exact ⟨a.1, a.2, b.1, b.2⟩)
      by_cases hf : f (xs[i]'hi2) (xs[j]'hj1) = 0
      · have hfy : f x1 y1 = 0 := by rw [← hx1, ← hy1]; exact hf
        have HF := hide hf
        have HFY := hide hfy
        clear hf hfy
        gi_wp2
        have HWr : Hid (Below wr.heap.size wr wr.drew) := hide (Below.refl _ _).drew
        have HCX := hide (HC.out wr.drew x1 y1 (HII.out _ _ HIw.out (hB.out.trans (BelX.of HWr.out (Nat.le_trans hw hB.out.size)))) HXX.out.1 HXX.out.2.1 HXX.out.2.2.1 HXX.out.2.2.2)
        rw [HFY.out] at HCX
        refine wpHeld.region (C := fun u => u = wr.drew) (D := fun j => decide (10 ≤ j)) (by kernel_rfl) ?_
        refine wpHeld.tk (i := 0) (d := some 11) (v := .func (.func cg) #[] cl) (by kernel_rfl) rfl (by kernel_rfl) (by kernel_rfl) (by kernel_rfl) (by kernel_rfl) rfl (fun _ _ _ h => h) ⟨Or.inl ⟨by rfl, ?_⟩, fun _ => rfl⟩ rfl ?_
        · rintro _ rfl
          go_simp
        simp only [Act.put, List.setIfInBounds_toArray, List.set_cons_zero, List.set_cons_succ]
        refine wpHeld.tk (i := 1) (d := some 12) (v := .slice (some ⟨ga, oa, none⟩) xs.length ca) (by kernel_rfl) rfl (by kernel_rfl) (by kernel_rfl) (by kernel_rfl) (by kernel_rfl) rfl (fun _ _ _ h => h) ⟨Or.inl ⟨by rfl, ?_⟩, fun _ => rfl⟩ rfl ?_
        · rintro _ rfl
          go_simp
        simp only [Act.put, List.setIfInBounds_toArray, List.set_cons_zero, List.set_cons_succ]
        refine wpHeld.tk (i := 2) (d := some 13) (v := .int .i64 j) (by kernel_rfl) rfl (by kernel_rfl) (by kernel_rfl) (by kernel_rfl) (by kernel_rfl) rfl (fun _ _ _ h => h) ⟨Or.inl ⟨by rfl, ?_⟩, fun _ => rfl⟩ rfl ?_
        · rintro _ rfl
          go_simp
        simp only [Act.put, List.setIfInBounds_toArray, List.set_cons_zero, List.set_cons_succ]
        refine wpHeld.tk (i := 3) (d := some 14) (v := .int .i64 i) (by kernel_rfl) rfl (by kernel_rfl) (by kernel_rfl) (by kernel_rfl) (by kernel_rfl) rfl (fun _ _ _ h => h) ⟨Or.inl ⟨by rfl, ?_⟩, fun _ => rfl⟩ rfl ?_
        · rintro _ rfl
          go_simp
        simp only [Act.put, List.setIfInBounds_toArray, List.set_cons_zero, List.set_cons_succ]
        refine wpHeld.tk (i := 4) (d := some 15) (v := .pointer (some ⟨ga, oa + i, none⟩)) (by kernel_rfl) rfl (by kernel_rfl) (by kernel_rfl) (by kernel_rfl) (by kernel_rfl) rfl (fun _ _ _ h => h) ⟨Or.inl ⟨by rfl, ?_⟩, fun _ => rfl⟩ rfl ?_
        · rintro _ rfl
          go_simp
        simp only [Act.put, List.setIfInBounds_toArray, List.set_cons_zero, List.set_cons_succ]
        refine wpHeld.tk (i := 5) (d := some 16) (v := .int .i64 x1) (by kernel_rfl) rfl (by kernel_rfl) (by kernel_rfl) (by kernel_rfl) (by kernel_rfl) rfl (fun _ _ _ h => h) ⟨Or.inl ⟨by rfl, ?_⟩, fun _ => rfl⟩ rfl ?_
        · rintro _ rfl
          go_simp
        simp only [Act.put, List.setIfInBounds_toArray, List.set_cons_zero, List.set_cons_succ]
        refine wpHeld.tk (i := 6) (d := some 17) (v := .slice (some ⟨ga, oa, none⟩) xs.length ca) (by kernel_rfl) rfl (by kernel_rfl) (by kernel_rfl) (by kernel_rfl) (by kernel_rfl) rfl (fun _ _ _ h => h) ⟨Or.inl ⟨by rfl, ?_⟩, fun _ => rfl⟩ rfl ?_
        · rintro _ rfl
          go_simp
        simp only [Act.put, List.setIfInBounds_toArray, List.set_cons_zero, List.set_cons_succ]
        refine wpHeld.tk (i := 7) (d := some 18) (v := .int .i64 j) (by kernel_rfl) rfl (by kernel_rfl) (by kernel_rfl) (by kernel_rfl) (by kernel_rfl) rfl (fun _ _ _ h => h) ⟨Or.inl ⟨by rfl, ?_⟩, fun _ => rfl⟩ rfl ?_
        · rintro _ rfl
          go_simp
        simp only [Act.put, List.setIfInBounds_toArray, List.set_cons_zero, List.set_cons_succ]
        refine wpHeld.tk (i := 8) (d := some 19) (v := .pointer (some ⟨ga, oa + j, none⟩)) (by kernel_rfl) rfl (by kernel_rfl) (by kernel_rfl) (by kernel_rfl) (by kernel_rfl) rfl (fun _ _ _ h => h) ⟨Or.inl ⟨by rfl, ?_⟩, fun _ => rfl⟩ rfl ?_
        · rintro _ rfl
          go_simp
        simp only [Act.put, List.setIfInBounds_toArray, List.set_cons_zero, List.set_cons_succ]
        refine wpHeld.tk (i := 9) (d := some 20) (v := .int .i64 y1) (by kernel_rfl) rfl (by kernel_rfl) (by kernel_rfl) (by kernel_rfl) (by kernel_rfl) rfl (fun _ _ _ h => h) ⟨Or.inl ⟨by rfl, ?_⟩, fun _ => rfl⟩ rfl ?_
        · rintro _ rfl
          go_simp
        simp only [Act.put, List.setIfInBounds_toArray, List.set_cons_zero, List.set_cons_succ]
        refine wpHeld.one (i := 10) (by kernel_rfl) rfl (fun K hK => ?_)
        rw [if_pos (by rfl)]
        go_simp
        refine ⟨trivial, (callsIn_wide.2 HCX.out).mono ?_⟩
        rintro e w8 ⟨rfl, hb⟩
        have HKB := hide hb
        clear hb
        have Jp := HJ.out pre wr _ none hJw (ograwn (HWr.out.trans (HKB.out.mono HWr.out.size))) (fun r e => by cases e)
        obtain ⟨fn, tmps, assign, body, hy, hR⟩ := HY.out pre ⟨j, hj1⟩ w8 Jp (by omega)
        dsimp only [plEncs] at hy
        refine hK _ _ ⟨fun h => absurd h (by decide), ?_⟩
        refine wpHeld.change (C' := fun _ => True) (D' := fun _ => false) _ _ _ _ (fun k hk => ?_) ?_
        · have hk' : k < 10 := by simpa using hk
          revert hk'
          revert k
          clear hK
          intro k hk hk'
          match k, hk' with
          | 0, _ => rfl
          | 1, _ => rfl
          | 2, _ => rfl
          | 3, _ => rfl
          | 4, _ => rfl
          | 5, _ => rfl
          | 6, _ => rfl
          | 7, _ => rfl
          | 8, _ => rfl
          | 9, _ => rfl
        clear hK K HCX
        refine wpHeld.tk (i := 11) (d := some 22) (v := .bool true) (by kernel_rfl) rfl (by kernel_rfl) (by kernel_rfl) (by kernel_rfl) (by kernel_rfl) rfl (fun _ _ _ h => h) ⟨Or.inl ⟨by rfl, ?_⟩, fun _ => rfl⟩ trivial ?_
        · rintro _ _
          go_simp
        simp only [Act.put, List.setIfInBounds_toArray, List.set_cons_zero, List.set_cons_succ]
        refine wpHeld.tk (i := 12) (d := some 23) (v := .bool true) (by kernel_rfl) rfl (by kernel_rfl) (by kernel_rfl) (by kernel_rfl) (by kernel_rfl) rfl (fun _ _ _ h => h) ⟨Or.inl ⟨by rfl, ?_⟩, fun _ => rfl⟩ trivial ?_
        · rintro _ _
          go_simp
        simp only [Act.put, List.setIfInBounds_toArray, List.set_cons_zero, List.set_cons_succ]
        refine wpHeld.tk (i := 13) (d := some 24) (v := .func (.yield l) #[] #[]) (by kernel_rfl) rfl (by kernel_rfl) (by kernel_rfl) (by kernel_rfl) (by kernel_rfl) rfl (fun _ _ _ h => h) ⟨Or.inl ⟨by rfl, ?_⟩, fun _ => rfl⟩ trivial ?_
        · rintro _ _
          go_simp
        simp only [Act.put, List.setIfInBounds_toArray, List.set_cons_zero, List.set_cons_succ]
        refine wpHeld.tk (i := 14) (d := some 25) (v := .int .i64 j) (by kernel_rfl) rfl (by kernel_rfl) (by kernel_rfl) (by kernel_rfl) (by kernel_rfl) rfl (fun _ _ _ h => h) ⟨Or.inl ⟨by rfl, ?_⟩, fun _ => rfl⟩ trivial ?_
        · rintro _ _
          go_simp
        simp only [Act.put, List.setIfInBounds_toArray, List.set_cons_zero, List.set_cons_succ]
        refine wpHeld.one (i := 15) (by kernel_rfl) rfl (fun K hK => ?_)
        rw [if_pos (by rfl)]
        go_simp
        refine hR.mono ?_
        rintro e W3 h3
        obtain ⟨b, rfl, h4⟩ := yield_one h3
        have H4 := hide h4
        clear h3 h4
        refine hK _ _ ⟨fun _ => trivial, ?_⟩
        clear hK K
        refine wpHeld.tk (i := 16) (d := some 27) (v := .bool (!b)) (by kernel_rfl) rfl (by kernel_rfl) (by kernel_rfl) (by kernel_rfl) (by kernel_rfl) rfl (fun _ _ _ h => h) ⟨Or.inl ⟨by rfl, ?_⟩, fun _ => rfl⟩ trivial ?_
        · rintro _ _
          go_simp
        simp only [Act.put, List.setIfInBounds_toArray, List.set_cons_zero, List.set_cons_succ]
        refine wpHeld.tk (i := 17) (d := some 28) (v := .bool (!b)) (by kernel_rfl) rfl (by kernel_rfl) (by kernel_rfl) (by kernel_rfl) (by kernel_rfl) rfl (fun _ _ _ h => h) ⟨Or.inl ⟨by rfl, ?_⟩, fun _ => rfl⟩ trivial ?_
        · rintro _ _
          go_simp
        simp only [Act.put, List.setIfInBounds_toArray, List.set_cons_zero, List.set_cons_succ]
        refine wpHeld.done (by kernel_rfl) ?_ _
        rcases H4.out with ⟨rfl, hJ3, hk3⟩ | ⟨rfl, hJx3⟩
        · have hB3 := hide (hB.out.trans ((BelX.of (HWr.out.trans (HKB.out.mono HWr.out.size)) (Nat.le_trans hw hB.out.size)).trans hk3))
          have hs3 := Nat.le_trans hWr (Nat.le_trans (HWr.out.trans (HKB.out.mono HWr.out.size)).size hk3.size)
          clear H4 hk3 hy hR Jp HKB
          gi_wp2
          go_roundw
          case rel => exact ⟨j, _, by simp, by omega, hide (by rw [← hpre.out, reps_yes hi1 (by simp only [HJJ.out]; exact HF.out)]; simp [HJJ.out]), by simp; have := HJJ.out; omega, hB3, hs3, hJ3⟩
          case measure => simp [intOf]; omega
        · clear H4 hy hR Jp HKB
          gi_wp2
          refine bodyPost_ret (results_none rfl _ _ _) rfl ?_
          refine ⟨⟨_, rfl⟩, .inr ⟨_, ?_, hJx3⟩⟩
          rw [← hpre.out, reps_yes hi1 (by simp only [HJJ.out]; exact HF.out)]
          exact ⟨reps f (i + 1) (xs.drop (i + 1)), by simp [HJJ.out]⟩
      · obtain ⟨fv, hfv⟩ : ∃ fv, f x1 y1 = fv := ⟨_, rfl⟩
        have hfy : (fv == 0) = false := by rw [← hfv, ← hx1, ← hy1]; simpa using hf
        have HF := hide hf
        have HFY := hide hfv
        clear hf hfv
        gi_wp2
        have HWr : Hid (Below wr.heap.size wr wr.drew) := hide (Below.refl _ _).drew
        have HCX := hide (HC.out wr.drew x1 y1 (HII.out _ _ HIw.out (hB.out.trans (BelX.of HWr.out (Nat.le_trans hw hB.out.size)))) HXX.out.1 HXX.out.2.1 HXX.out.2.2.1 HXX.out.2.2.2)
        rw [HFY.out] at HCX
        refine wpHeld.region (C := fun u => u = wr.drew) (D := fun j => decide (10 ≤ j)) (by kernel_rfl) ?_
        refine wpHeld.tk (i := 0) (d := some 11) (v := .func (.func cg) #[] cl) (by kernel_rfl) rfl (by kernel_rfl) (by kernel_rfl) (by kernel_rfl) (by kernel_rfl) rfl (fun _ _ _ h => h) ⟨Or.inl ⟨by rfl, ?_⟩, fun _ => rfl⟩ rfl ?_
        · rintro _ rfl
          go_simp
        simp only [Act.put, List.setIfInBounds_toArray, List.set_cons_zero, List.set_cons_succ]
        refine wpHeld.tk (i := 1) (d := some 12) (v := .slice (some ⟨ga, oa, none⟩) xs.length ca) (by kernel_rfl) rfl (by kernel_rfl) (by kernel_rfl) (by kernel_rfl) (by kernel_rfl) rfl (fun _ _ _ h => h) ⟨Or.inl ⟨by rfl, ?_⟩, fun _ => rfl⟩ rfl ?_
        · rintro _ rfl
          go_simp
        simp only [Act.put, List.setIfInBounds_toArray, List.set_cons_zero, List.set_cons_succ]
        refine wpHeld.tk (i := 2) (d := some 13) (v := .int .i64 j) (by kernel_rfl) rfl (by kernel_rfl) (by kernel_rfl) (by kernel_rfl) (by kernel_rfl) rfl (fun _ _ _ h => h) ⟨Or.inl ⟨by rfl, ?_⟩, fun _ => rfl⟩ rfl ?_
        · rintro _ rfl
          go_simp
        simp only [Act.put, List.setIfInBounds_toArray, List.set_cons_zero, List.set_cons_succ]
        refine wpHeld.tk (i := 3) (d := some 14) (v := .int .i64 i) (by kernel_rfl) rfl (by kernel_rfl) (by kernel_rfl) (by kernel_rfl) (by kernel_rfl) rfl (fun _ _ _ h => h) ⟨Or.inl ⟨by rfl, ?_⟩, fun _ => rfl⟩ rfl ?_
        · rintro _ rfl
          go_simp
        simp only [Act.put, List.setIfInBounds_toArray, List.set_cons_zero, List.set_cons_succ]
        refine wpHeld.tk (i := 4) (d := some 15) (v := .pointer (some ⟨ga, oa + i, none⟩)) (by kernel_rfl) rfl (by kernel_rfl) (by kernel_rfl) (by kernel_rfl) (by kernel_rfl) rfl (fun _ _ _ h => h) ⟨Or.inl ⟨by rfl, ?_⟩, fun _ => rfl⟩ rfl ?_
        · rintro _ rfl
          go_simp
        simp only [Act.put, List.setIfInBounds_toArray, List.set_cons_zero, List.set_cons_succ]
        refine wpHeld.tk (i := 5) (d := some 16) (v := .int .i64 x1) (by kernel_rfl) rfl (by kernel_rfl) (by kernel_rfl) (by kernel_rfl) (by kernel_rfl) rfl (fun _ _ _ h => h) ⟨Or.inl ⟨by rfl, ?_⟩, fun _ => rfl⟩ rfl ?_
        · rintro _ rfl
          go_simp
        simp only [Act.put, List.setIfInBounds_toArray, List.set_cons_zero, List.set_cons_succ]
        refine wpHeld.tk (i := 6) (d := some 17) (v := .slice (some ⟨ga, oa, none⟩) xs.length ca) (by kernel_rfl) rfl (by kernel_rfl) (by kernel_rfl) (by kernel_rfl) (by kernel_rfl) rfl (fun _ _ _ h => h) ⟨Or.inl ⟨by rfl, ?_⟩, fun _ => rfl⟩ rfl ?_
        · rintro _ rfl
          go_simp
        simp only [Act.put, List.setIfInBounds_toArray, List.set_cons_zero, List.set_cons_succ]
        refine wpHeld.tk (i := 7) (d := some 18) (v := .int .i64 j) (by kernel_rfl) rfl (by kernel_rfl) (by kernel_rfl) (by kernel_rfl) (by kernel_rfl) rfl (fun _ _ _ h => h) ⟨Or.inl ⟨by rfl, ?_⟩, fun _ => rfl⟩ rfl ?_
        · rintro _ rfl
          go_simp
        simp only [Act.put, List.setIfInBounds_toArray, List.set_cons_zero, List.set_cons_succ]
        refine wpHeld.tk (i := 8) (d := some 19) (v := .pointer (some ⟨ga, oa + j, none⟩)) (by kernel_rfl) rfl (by kernel_rfl) (by kernel_rfl) (by kernel_rfl) (by kernel_rfl) rfl (fun _ _ _ h => h) ⟨Or.inl ⟨by rfl, ?_⟩, fun _ => rfl⟩ rfl ?_
        · rintro _ rfl
          go_simp
        simp only [Act.put, List.setIfInBounds_toArray, List.set_cons_zero, List.set_cons_succ]
        refine wpHeld.tk (i := 9) (d := some 20) (v := .int .i64 y1) (by kernel_rfl) rfl (by kernel_rfl) (by kernel_rfl) (by kernel_rfl) (by kernel_rfl) rfl (fun _ _ _ h => h) ⟨Or.inl ⟨by rfl, ?_⟩, fun _ => rfl⟩ rfl ?_
        · rintro _ rfl
          go_simp
        simp only [Act.put, List.setIfInBounds_toArray, List.set_cons_zero, List.set_cons_succ]
        refine wpHeld.one (i := 10) (by kernel_rfl) rfl (fun K hK => ?_)
        rw [if_pos (by rfl)]
        go_simp
        refine ⟨trivial, (callsIn_wide.2 HCX.out).mono ?_⟩
        rintro e w8 ⟨rfl, hb⟩
        have HKB := hide hb
        clear hb
        have Jp := HJ.out pre wr _ none hJw (ograwn (HWr.out.trans (HKB.out.mono HWr.out.size))) (fun r e => by cases e)
        refine hK _ _ ⟨fun h => absurd h (by decide), ?_⟩
        refine wpHeld.change (C' := fun _ => True) (D' := fun _ => false) _ _ _ _ (fun k hk => ?_) ?_
        · have hk' : k < 10 := by simpa using hk
          revert hk'
          revert k
          clear hK
          intro k hk hk'
          match k, hk' with
          | 0, _ => rfl
          | 1, _ => rfl
          | 2, _ => rfl
          | 3, _ => rfl
          | 4, _ => rfl
          | 5, _ => rfl
          | 6, _ => rfl
          | 7, _ => rfl
          | 8, _ => rfl
          | 9, _ => rfl
        clear hK K HCX
        refine wpHeld.tk (i := 11) (d := some 22) (v := .bool false) (by kernel_rfl) rfl (by kernel_rfl) (by kernel_rfl) (by kernel_rfl) (by kernel_rfl) rfl (fun _ _ _ h => h) ⟨Or.inl ⟨by rfl, ?_⟩, fun _ => rfl⟩ trivial ?_
        · rintro _ _
          go_simp
        simp only [Act.put, List.setIfInBounds_toArray, List.set_cons_zero, List.set_cons_succ]
        refine wpHeld.tk (i := 12) (d := some 23) (v := .bool false) (by kernel_rfl) rfl (by kernel_rfl) (by kernel_rfl) (by kernel_rfl) (by kernel_rfl) rfl (fun _ _ _ h => h) ⟨Or.inl ⟨by rfl, ?_⟩, fun _ => rfl⟩ trivial ?_
        · rintro _ _
          go_simp
        simp only [Act.put, List.setIfInBounds_toArray, List.set_cons_zero, List.set_cons_succ]
        refine wpHeld.tk (i := 13) (d := some 24) (v := undef) (by kernel_rfl) rfl (by kernel_rfl) (by kernel_rfl) (by kernel_rfl) (by kernel_rfl) rfl (fun _ _ _ h => h) ⟨Or.inr ⟨by rfl, rfl⟩, fun _ => rfl⟩ trivial ?_
        simp only [Act.put, List.setIfInBounds_toArray, List.set_cons_zero, List.set_cons_succ]
        refine wpHeld.tk (i := 14) (d := some 25) (v := undef) (by kernel_rfl) rfl (by kernel_rfl) (by kernel_rfl) (by kernel_rfl) (by kernel_rfl) rfl (fun _ _ _ h => h) ⟨Or.inr ⟨by rfl, rfl⟩, fun _ => rfl⟩ trivial ?_
        simp only [Act.put, List.setIfInBounds_toArray, List.set_cons_zero, List.set_cons_succ]
        refine wpHeld.tk (i := 15) (d := some 26) (v := undef) (by kernel_rfl) rfl (by kernel_rfl) (by kernel_rfl) (by kernel_rfl) (by kernel_rfl) rfl (fun _ _ _ h => h) ⟨Or.inr ⟨by rfl, rfl⟩, fun _ => rfl⟩ trivial ?_
        simp only [Act.put, List.setIfInBounds_toArray, List.set_cons_zero, List.set_cons_succ]
        refine wpHeld.tk (i := 16) (d := some 27) (v := undef) (by kernel_rfl) rfl (by kernel_rfl) (by kernel_rfl) (by kernel_rfl) (by kernel_rfl) rfl (fun _ _ _ h => h) ⟨Or.inr ⟨by rfl, rfl⟩, fun _ => rfl⟩ trivial ?_
        simp only [Act.put, List.setIfInBounds_toArray, List.set_cons_zero, List.set_cons_succ]
        refine wpHeld.tk (i := 17) (d := some 28) (v := .bool false) (by kernel_rfl) rfl (by kernel_rfl) (by kernel_rfl) (by kernel_rfl) (by kernel_rfl) rfl (fun _ _ _ h => h) ⟨Or.inl ⟨by rfl, ?_⟩, fun _ => rfl⟩ trivial ?_
        · rintro _ _
          go_simp
        simp only [Act.put, List.setIfInBounds_toArray, List.set_cons_zero, List.set_cons_succ]
        refine wpHeld.done (by kernel_rfl) ?_ _
        have hB3 := hide (hB.out.trans (BelX.of (HWr.out.trans (HKB.out.mono HWr.out.size)) (Nat.le_trans hw hB.out.size)))
        have hs3 := Nat.le_trans hWr (HWr.out.trans (HKB.out.mono HWr.out.size)).size
        clear HKB
        gi_wp2
        go_roundw
        case rel => exact ⟨j, pre, by simp, by omega, hide (by rw [← hpre.out, reps_no hi1 (by simp only [HJJ.out]; exact HF.out), HJJ.out]), by have := HJJ.out; omega, hB3, hs3, Jp⟩
        case measure => simp [intOf]; omega
    · have q1 : ¬ (i : Int) + 1 < (xs.length : Int) := by omega
      gi_wp2
      go_end0
      exact ⟨⟨_, rfl⟩, .inl ⟨pre, by have := hpre.out; rw [reps_end hi1] at this; simpa using this, hJw⟩⟩

theorem ntrep_stops {n Ba Bc n₀ m : Nat} {X : Nat → Prop} {I : World → Prop} {w : World} {va cv : Value} {xs : List Int} {f : Int → Int → Int} (hn : 1 ≤ n)
    (bA : Boxed w Ba 63 va) (bC : Boxed w Bc 62 cv) (lA : Ba < n₀ ∧ ¬ X Ba) (lC : Bc < n₀ ∧ ¬ X Bc)
    (ha : NtRd (fun g => g < n₀ ∧ ¬ X g) w va xs) (hc : CmpIsN I cv m f) (hIw : I w) (hI : ∀ W W', I W → BelX X n₀ W W' → I W') (hw : n₀ ≤ w.heap.size) (hx : xs.length ≤ 4611686018427387903) (hxm : ∀ x ∈ xs, 0 ≤ x ∧ x < m) :
    SeqStopsK Fence.wide n Try.prog 40 #[.pointer (some ⟨Ba, 0, none⟩), .pointer (some ⟨Bc, 0, none⟩)] (plEncs xs.length) (BelX X n₀) (fun zs => zs.map Subtype.val = reps f 0 xs) (fun pre => pre.map Subtype.val <+: reps f 0 xs) xs.length w := fun l J Jx W hW hJ _ hY h0 =>
  ntrep1_in hn bA bC lA lC ha hc hIw hI hw (Nat.le_refl _) hx hxm J Jx hY W hJ hW h0

end Go.Proofs.Ytboikfcmbfaaeaa

namespace Go.Proofs.Ytboikfcmbfaaeaa
open Go.RowKit
set_option linter.unusedVariables false
section
variable {P : Program} {ops : Array Oper} {Q : Exit → Act → World → Prop} {md : Region.Mode} {C : World → Prop} {D : Nat → Bool}

/-- whatever order is picked; C holds behind every operation that is none of D -/
def wpHl (P : Program) (md : Region.Mode) (ops : Array Oper) (Q : Exit → Act → World → Prop) (C : World → Prop) (D : Nat → Bool) : Nat → Array Bool → Act → World → Prop
  | 0, listed, a, w => Region.ready md ops listed = [] ∧ Q .normal a w
  | fuel + 1, listed, a, w => (Region.ready md ops listed = [] → Q .normal a w) ∧
    ∀ i ∈ Region.ready md ops listed, wpOp P ops Q i (fun a' w' => (D i = false → C w') ∧ wpHl P md ops Q C D fuel (listed.setIfInBounds i true) a' w') a w
theorem wpHl.any : ∀ (fuel : Nat) (listed : Array Bool) (a : Act) (w : World), wpHl P md ops Q C D fuel listed a w → wpAny P md ops Q fuel listed a w
  | 0, _, _, _, h => h
  | fuel + 1, _, _, _, h => ⟨h.1, fun i hi => wpOp_mono (fun a' w' k => wpHl.any fuel _ a' w' k.2) (h.2 i hi)⟩
theorem wpHl.region {id : Nat} {a : Act} {w : World} (hm : P.follows .mixedOrders = true) (h : wpHl P .any ops Q C D ops.size (Array.replicate ops.size false) a w.drew) : (Code.region id ops true).wp P Q a w :=
  wp_region_any hm (wpHl.any _ _ _ _ h)
theorem wpHl.done {listed : Array Bool} {a : Act} {w : World} (hr : Region.ready md ops listed = []) (h : Q .normal a w) : ∀ fuel, wpHl P md ops Q C D fuel listed a w
  | 0 => ⟨hr, h⟩
  | _ + 1 => ⟨fun _ => h, by rw [hr]; simp⟩
theorem wpHl.one {i : Nat} {fuel : Nat} {listed : Array Bool} {a : Act} {w : World} {o : Oper} (hr : Region.ready md ops listed = [i]) (ho : ops[i]? = some o)
    (h : ∀ K : Act → World → Prop, (∀ a' w', (D i = false → C w') ∧ wpHl P md ops Q C D fuel (listed.setIfInBounds i true) a' w' → K a' w') → if Region.wanted o (yielded ops a.tmps) = true then Oper.wp P o a w K Q else K (a.put o.dst undef) w) :
    wpHl P md ops Q C D (fuel + 1) listed a w :=
  ⟨fun h0 => (by rw [hr] at h0; cases h0), fun j hj => by
    rw [hr, List.mem_singleton] at hj
    subst hj
    exact wpOp_step ho h⟩
/-- an operation that may come up is taken first, if none of D can come ahead of it -/
theorem wpHl.first {i : Nat} {oi : Oper} {v : Value} {R : Nat → Bool} (hi : ops[i]? = some oi) (hsel : ∀ (j : Nat) (o : Oper) cs b, ops[j]? = some o → o.op ≠ .select cs b)
    (hQ : ∀ c a w, Q (.panic c) (a.put oi.dst v) w → Q (.panic c) a w) (hR : ∀ j oj, ops[j]? = some oj → j ≠ i → (∀ e ∈ oj.after, Region.binds md e = true → R e.on = true) → R j = true) (hD : ∀ j, R j = true → D j = false) (hDi : D i = false) :
    ∀ (fuel : Nat) (listed : Array Bool) (a : Act) (w : World), (∀ j oj, ops[j]? = some oj → j ≠ i → listed.getD j true = false → (∀ e ∈ oj.after, Region.binds md e = true → e.on ≠ i) → oi.apart ops oj = true) →
      (∀ k, listed.getD k false = true → R k = true) → i ∈ Region.ready md ops listed → YieldsIf P ops C oi v a → C w →
      wpHl P md ops Q C D fuel (listed.setIfInBounds i true) (a.put oi.dst v) w → wpHl P md ops Q C D (fuel + 1) listed a w := by
  intro fuel
  induction fuel with
  | zero =>
    intro listed a w _ _ hr hy hC H
    refine ⟨fun h => (by rw [h] at hr; cases hr), fun j hj => ?_⟩
    by_cases hji : j = i
    · subst hji
      exact hy.wpOp hi hC ⟨fun _ => hC, H⟩
    · have := ready_mono hj hji
      rw [H.1] at this
      cases this
  | succ fuel ih =>
    intro listed a w hfree hl hr hy hC H
    refine ⟨fun h => (by rw [h] at hr; cases hr), fun j hj => ?_⟩
    by_cases hji : j = i
    · subst hji
      exact hy.wpOp hi hC ⟨fun _ => hC, H⟩
    · obtain ⟨hjun, oj, hoj, hall⟩ := mem_ready.1 hj
      have hiun := (mem_ready.1 hr).1
      have hnot : ∀ e ∈ oj.after, Region.binds md e = true → e.on ≠ i := fun e he hb heq => by
        have h1 := hall e he hb
        rw [heq] at h1
        rcases Nat.lt_or_ge i listed.size with h' | h'
        · simp [h'] at hiun h1
          rw [hiun] at h1
          cases h1
        · simp [Array.getElem?_eq_none h'] at h1
      have hap := hfree j oj hoj hji hjun hnot
      have hRj : R j = true := hR j oj hoj hji (fun e he hb => hl _ (hall e he hb))
      have h2 := wpOp_putIf hoj hap (fun cs b => hsel i oi cs b hi) (fun cs b => hsel j oj cs b hoj) hQ hy (H.2 j (ready_mono hj hji))
      refine wpOp_mono (fun a' w' k => ?_) h2
      obtain ⟨hb, hc, hk⟩ := k
      refine ⟨hc, ih (listed.setIfInBounds j true) a' w' (fun k ok hk' hki hun hno => hfree k ok hk' hki ?_ hno) (fun k hk' => ?_) (ready_mono hr (Ne.symm hji)) hb (hc (hD j hRj)) ?_⟩
      · by_cases hjk : j = k
        · subst hjk; exact hjun
        · rw [getD_set_ne true hjk] at hun; exact hun
      · by_cases hjk : j = k
        · subst hjk; exact hRj
        · rw [getD_set_ne false hjk] at hk'; exact hl k hk'
      · rw [Array.setIfInBounds_comm _ _ hji]
        exact hk
/-- once all but D's have come up, another word may be held -/
theorem wpHl.change {C' : World → Prop} {D' : Nat → Bool} : ∀ (fuel : Nat) (listed : Array Bool) (a : Act) (w : World), (∀ i, D i = false → listed.getD i true = true) → wpHl P md ops Q C' D' fuel listed a w → wpHl P md ops Q C D fuel listed a w
  | 0, _, _, _, _, h => h
  | fuel + 1, listed, a, w, hl, h => by
    refine ⟨h.1, fun i hi => wpOp_mono (fun a' w' k => ?_) (h.2 i hi)⟩
    have h1 := (mem_ready.1 hi).1
    refine ⟨fun hd => ?_, wpHl.change fuel _ a' w' (fun j hj => ?_) k.2⟩
    · rw [hl i hd] at h1
      cases h1
    · by_cases hij : i = j
      · subst hij
        rw [hl i hj] at h1
        cases h1
      · rw [getD_set_ne true hij]
        exact hl j hj
/-- what can come up while number i does not -/
def hReach (md : Region.Mode) (ops : Array Oper) (i : Nat) : Nat → List Nat → List Nat
  | 0, L => L
  | k + 1, L => hReach md ops i k ((List.range ops.size).filter fun j => L.contains j || (j != i && (ops[j]?).any (fun o => o.after.all fun e => !Region.binds md e || L.contains e.on)))
def hHeldB (md : Region.Mode) (ops : Array Oper) (D : Nat → Bool) (listed : Array Bool) (i : Nat) (L : List Nat) : Bool :=
  (List.range ops.size).all (fun j => j == i || L.contains j || (ops[j]?).any (fun o => o.after.any fun e => Region.binds md e && !L.contains e.on)) && L.all (fun j => !D j) && (List.range listed.size).all (fun k => !listed.getD k false || L.contains k) && !D i
theorem wpHl.tk {i : Nat} {oi : Oper} {d : Option Tmp} {v : Value} {fuel : Nat} {listed : Array Bool} {a : Act} {w : World} (hi : ops[i]? = some oi) (hs : Region.noSelect ops = true) (hf : Region.free md ops listed i = true) (hr : (Region.ready md ops listed).contains i = true)
    (hB : hHeldB md ops D listed i (hReach md ops i ops.size ((List.range listed.size).filter fun k => listed.getD k false)) = true) (hd : oi.dst = d) (hQ : ∀ c a w, Q (.panic c) (a.put d v) w → Q (.panic c) a w) (hy : YieldsIf P ops C oi v a) (hC : C w)
    (h : wpHl P md ops Q C D fuel (listed.setIfInBounds i true) (a.put d v) w) : wpHl P md ops Q C D (fuel + 1) listed a w := by
  subst hd
  generalize hReach md ops i ops.size _ = L at hB
  simp only [hHeldB, Bool.and_eq_true, List.all_eq_true, List.mem_range, Bool.or_eq_true, beq_iff_eq, Bool.not_eq_true'] at hB
  obtain ⟨⟨⟨b1, b2⟩, b3⟩, b4⟩ := hB
  refine wpHl.first (R := fun k => L.contains k) hi (Region.noSelect_spec hs) hQ (fun j oj hj hji hall => ?_) (fun j hj => b2 j (by simpa using hj)) b4 fuel listed a w (Region.free_spec hi hf) (fun k hk => ?_) (by simpa using hr) hy hC h
  · rcases b1 j (Array.getElem?_eq_some_iff.1 hj).1 with (e | e) | e
    · exact absurd e hji
    · exact e
    · rw [hj] at e
      simp only [Option.any_some, Array.any_eq_true] at e
      obtain ⟨k, hk, e⟩ := e
      simp only [Bool.and_eq_true, Bool.not_eq_true'] at e
      have := hall _ (Array.getElem_mem hk) e.1
      rw [this] at e
      exact absurd e.2 (by simp)
  · by_cases hlt : k < listed.size
    · rcases b3 k hlt with e | e
      · rw [hk] at e; cases e
      · exact e
    · rw [Array.getD_eq_getD_getElem?, Array.getElem?_eq_none (by omega)] at hk
      cases hk

end
end Go.Proofs.Ytboikfcmbfaaeaa

namespace Go.Proofs.Ytboikfcmbfaaeaa
open Go.RowKit Go.Shelf
set_option linter.unusedVariables false
attribute [local go_sem] Oper.semAt_some

set_option maxRecDepth 100000 in
set_option maxHeartbeats 1000000 in
theorem ntmerged_any {w : World} {ao bo : Option Addr} {la ca lb cb g : Nat} {cs : Array Value} : Calls Try.prog 41 #[.slice ao la ca, .slice bo lb cb, .func (.func g) #[] cs] w fun e w' => e = .returned (.func (.func 42) #[] #[.pointer (some ⟨w.heap.size, 0, none⟩), .pointer (some ⟨w.heap.size + 1, 0, none⟩), .pointer (some ⟨w.heap.size + 2, 0, none⟩)]) ∧ w' = ((w.alloc (.cells #[.slice ao la ca] 63)).alloc (.cells #[.slice bo lb cb] 63)).alloc (.cells #[.func (.func g) #[] cs] 62) := by
  go_enter Try.func41, Try.ntmps41
  go_wp2
  go_ret
  exact ⟨rfl, rfl⟩

set_option maxRecDepth 100000 in
set_option maxHeartbeats 8000000 in
theorem ntmerged1_in {n l Ba Bb Bc n₀ N m : Nat} {X : Nat → Prop} {I : World → Prop} {w : World} {va vb cv : Value} {xs ys : List Int} {f : Int → Int → Int} (hn : 1 ≤ n)
    (bA : Boxed w Ba 63 va) (bB : Boxed w Bb 63 vb) (bC : Boxed w Bc 62 cv) (lA : Ba < n₀ ∧ ¬ X Ba) (lB : Bb < n₀ ∧ ¬ X Bb) (lC : Bc < n₀ ∧ ¬ X Bc)
    (ha : NtRd (fun g => g < n₀ ∧ ¬ X g) w va xs) (hb : NtRd (fun g => g < n₀ ∧ ¬ X g) w vb ys) (hc : CmpIsN I cv m f) (hIw : I w) (hI : ∀ W W', I W → BelX X n₀ W W' → I W') (hw : n₀ ≤ w.heap.size) (hN : xs.length + ys.length ≤ N) (hx : xs.length ≤ 4611686018427387903) (hy : ys.length ≤ 4611686018427387903) (hxm : ∀ x ∈ xs, 0 ≤ x ∧ x < (m : Int)) (hym : ∀ x ∈ ys, 0 ≤ x ∧ x < (m : Int))
    (J Jx : List Int → World → Prop) (hY : ∀ pre x W, J pre W → pre.length < N → YieldAt Fence.wide (n - 1) Try.prog l (ntEncs x) W fun e W' =>
      (e = .returned (.bool true) ∧ J (pre ++ [x]) W' ∧ BelX X n₀ W W') ∨ (e = .returned (.bool false) ∧ Jx (pre ++ [x]) W'))
    (W : World) (hJ : AbidesFrom W.heap.size J) (hW : Below w.heap.size w W) (h0 : J [] W) :
    CallsIn Fence.wide n Try.prog 42 #[.func (.yield l) #[] #[], .pointer (some ⟨Ba, 0, none⟩), .pointer (some ⟨Bb, 0, none⟩), .pointer (some ⟨Bc, 0, none⟩)] W fun e W' => (∃ v, e = .returned v) ∧
      ((∃ zs, zs = mrg f xs ys ∧ J zs W') ∨ (∃ pre, pre <+: mrg f xs ys ∧ Jx pre W')) := by
  obtain ⟨cg, cl, rfl, eg, hcall⟩ := hc.val
  obtain ⟨ao, ca, rfl, hac, ham, hacl⟩ := ha
  obtain ⟨bo, cb, rfl, hbc, hbm, hbcl⟩ := hb
  unfold maxLen at ham hbm
  have RA := hide hacl
  have RB := hide hbcl
  have HC := hide hcall
  have HY := hide hY
  have HII := hide hI
  have HIw := hide hIw
  have HJ := hide hJ
  have BA := hide bA
  have BB := hide bB
  have BC := hide bC
  clear hacl hbcl hcall hY hI hIw hJ bA bB bC hc
  have HXM := hide hxm
  have HYM := hide hym
  clear hxm hym
  obtain ⟨Z, hZ⟩ : ∃ Z, mrg f xs ys = Z := ⟨_, rfl⟩
  rw [hZ]
  have HZ := hide hZ
  clear hZ
  refine callsIn_of_wp Try.func42 rfl trivial ?_ rfl
  simp only [Try.ntmps42, List.size_toArray, List.length_cons, List.length_nil, Nat.reduceAdd, Nat.reduceSub, Array.replicate_succ, Array.replicate_zero, List.push_toArray, List.append_toArray, List.nil_append, List.cons_append]
  gi_wp2
  gi_loopw [5, 6] (fun p q wr => ∃ (i j : Nat) (pre : List Int), p = .int .i64 i ∧ q = .int .i64 j ∧ i ≤ xs.length ∧ j ≤ ys.length ∧ Hid (pre ++ mrg f (xs.drop i) (ys.drop j) = Z) ∧ pre.length = i + j ∧ Hid (BelX X n₀ w wr) ∧ W.heap.size ≤ wr.heap.size ∧ J pre wr)
    (fun p q _ => xs.length + ys.length - ((intOf p).toNat + (intOf q).toNat))
  case atStart => exact ⟨0, 0, [], rfl, rfl, by omega, by omega, hide (by simpa using HZ.out), rfl, hide (BelX.of hW hw), Nat.le_refl _, h0⟩
  case round =>
    obtain ⟨i, j, pre, rfl, rfl, hi, hj, hpre, hpl, hB, hWr, hJw⟩ := hrel
    have bA := hB.out.boxed BA.out lA.1 lA.2
    have bB := hB.out.boxed BB.out lB.1 lB.2
    have bC := hB.out.boxed BC.out lC.1 lC.2
    have cA := bA.cell
    have cB := bB.cell
    have cC := bC.cell
    by_cases hi1 : i < xs.length
    · by_cases hj1 : j < ys.length
      · skip
        by_cases hf : f ys[j] xs[i] < 0
        · skip
          have q1 : (i : Int) < (xs.length : Int) := by omega
          have d1 : decide ((i : Int) < (xs.length : Int)) = true := by simp; omega
          have e1 : ((i : Int) == (xs.length : Int)) = false := by simp; omega
          obtain ⟨ga, oa, rfl, Ga, la, ia⟩ := RA.out (by omega)
          obtain ⟨x1, hxi⟩ : ∃ x, xs[i] = x := ⟨_, rfl⟩
          have HX1 := hide (show 0 ≤ x1 ∧ x1 < (m : Int) by rw [← hxi]; exact HXM.out _ (List.getElem_mem _))
          have IA := hide (ia i hi1)
          rw [hxi] at IA
          clear ia
          have q2 : (j : Int) < (ys.length : Int) := by omega
          have d2 : decide ((j : Int) < (ys.length : Int)) = true := by simp; omega
          obtain ⟨gb, ob, rfl, Gb, lb, ib⟩ := RB.out (by omega)
          obtain ⟨y1, hyj⟩ : ∃ y, ys[j] = y := ⟨_, rfl⟩
          have HY1 := hide (show 0 ≤ y1 ∧ y1 < (m : Int) by rw [← hyj]; exact HYM.out _ (List.getElem_mem _))
          have IB := hide (ib j hj1)
          rw [hyj] at IB
          clear ib
          have hf' := hf
          rw [hxi, hyj] at hf'
          obtain ⟨fv, hfv⟩ : ∃ fv, f y1 x1 = fv := ⟨_, rfl⟩
          rw [hfv] at hf'
          have HFV := hide hfv
          clear hfv
          have d3 : decide (fv < 0) = true := by simpa using hf'
          have HF := hide hf
          clear hf
          gi_wp2
          obtain ⟨W1, hW1⟩ : ∃ W1, wr = W1 := ⟨_, rfl⟩
          have K1 : Below wr.heap.size wr W1 := by rw [← hW1]; exact Below.refl _ wr
          rw [hW1]
          have HWW := hide hW1
          clear hW1 cA cB cC
          have B1 : Hid (BelX X n₀ w W1) := hide (hB.out.trans (BelX.of K1 (Nat.le_trans hw hB.out.size)))
          have WC : Hid (∀ (U : World), Below W1.heap.size W1 U → ∀ (p : Addr), p.block < n₀ ∧ ¬ X p.block → U.cell? p = w.cell? p) := hide (fun U k p hp => (B1.out.trans (BelX.of k (Nat.le_trans hw B1.out.size))).cell hp.1 hp.2)
          have CF : Hid (∀ U, Below W1.heap.size W1 U → U.cell? ⟨Ba, 0, none⟩ = some (.slice (some ⟨ga, oa, none⟩) xs.length ca) ∧ U.cell? ⟨Bb, 0, none⟩ = some (.slice (some ⟨gb, ob, none⟩) ys.length cb) ∧ U.cell? ⟨Bc, 0, none⟩ = some (.func (.func cg) #[] cl) ∧ U.cell? ⟨ga, oa + i, none⟩ = some (.int .i64 x1) ∧ U.cell? ⟨gb, ob + j, none⟩ = some (.int .i64 y1)) := hide (fun U k => ⟨(WC.out U k ⟨Ba, 0, none⟩ lA).trans BA.out.cell, (WC.out U k ⟨Bb, 0, none⟩ lB).trans BB.out.cell, (WC.out U k ⟨Bc, 0, none⟩ lC).trans BC.out.cell, (WC.out U k ⟨ga, _, none⟩ Ga).trans IA.out, (WC.out U k ⟨gb, _, none⟩ Gb).trans IB.out⟩)
          refine wpIn_wide.2 ?_
          have K : Below W1.heap.size W1 W1.drew := (Below.refl _ _).drew
          first | go_region_held3 (fun u => u.cell? ⟨Ba, 0, none⟩ = some (.slice (some ⟨ga, oa, none⟩) xs.length ca) ∧ u.cell? ⟨Bb, 0, none⟩ = some (.slice (some ⟨gb, ob, none⟩) ys.length cb) ∧ u.cell? ⟨Bc, 0, none⟩ = some (.func (.func cg) #[] cl) ∧ u.cell? ⟨ga, oa + i, none⟩ = some (.int .i64 x1) ∧ u.cell? ⟨gb, ob + j, none⟩ = some (.int .i64 y1))
            (first | with_reducible exact CF.out _ K | go_keep)
            (first | (go_at_fn cg; (with_reducible refine (HC.out _ y1 x1 (HII.out _ _ HIw.out (B1.out.trans (BelX.of K (Nat.le_trans hw B1.out.size)))) HY1.out.1 HY1.out.2 HX1.out.1 HX1.out.2).mono ?_); rintro e w8 ⟨rfl, hb⟩; rw [HFV.out]; replace K := K.trans (hb.mono K.size); clear hb)) | fail "region"
          obtain ⟨f0, f1, f2, f3, f4⟩ := CF.out _ K
          have HU : Below wr.heap.size wr w8 := K1.trans (K.mono K1.size)
          have Jp := HJ.out pre wr _ none hJw (ograwn HU) (fun r e => by cases e)
          obtain ⟨fn, tmps, assign, body, hy, hR⟩ := HY.out pre y1 _ Jp (by omega)
          dsimp only [ntEncs, ntV] at hy
          have HU := hide HU
          clear K K1 CF WC B1
          gi_wp2
          refine hR.mono ?_
          rintro e W3 (⟨rfl, hJ3, hk3⟩ | ⟨rfl, hJx3⟩)
          · have hB3 := hide (hB.out.trans ((BelX.of HU.out (Nat.le_trans hw hB.out.size)).trans hk3))
            have hs3 := Nat.le_trans hWr (Nat.le_trans HU.out.size hk3.size)
            gi_wp2
            go_roundw
            case rel => exact ⟨i, j + 1, _, rfl, by simp, by omega, by omega, hide (by rw [← hpre.out, mrg_lt hi1 hj1 hxi hyj HF.out]; simp), by simp; omega, hB3, hs3, hJ3⟩
            case measure => simp [intOf]; omega
          · gi_wp2
            refine bodyPost_ret (results_none rfl _ _ _) rfl ?_
            refine ⟨⟨_, rfl⟩, .inr ⟨_, ?_, hJx3⟩⟩
            rw [← hpre.out, mrg_lt hi1 hj1 hxi hyj HF.out]
            exact ⟨mrg f (xs.drop i) (ys.drop (j + 1)), by simp⟩
        · skip
          have q1 : (i : Int) < (xs.length : Int) := by omega
          have d1 : decide ((i : Int) < (xs.length : Int)) = true := by simp; omega
          have e1 : ((i : Int) == (xs.length : Int)) = false := by simp; omega
          obtain ⟨ga, oa, rfl, Ga, la, ia⟩ := RA.out (by omega)
          obtain ⟨x1, hxi⟩ : ∃ x, xs[i] = x := ⟨_, rfl⟩
          have HX1 := hide (show 0 ≤ x1 ∧ x1 < (m : Int) by rw [← hxi]; exact HXM.out _ (List.getElem_mem _))
          have IA := hide (ia i hi1)
          rw [hxi] at IA
          clear ia
          have q2 : (j : Int) < (ys.length : Int) := by omega
          have d2 : decide ((j : Int) < (ys.length : Int)) = true := by simp; omega
          obtain ⟨gb, ob, rfl, Gb, lb, ib⟩ := RB.out (by omega)
          obtain ⟨y1, hyj⟩ : ∃ y, ys[j] = y := ⟨_, rfl⟩
          have HY1 := hide (show 0 ≤ y1 ∧ y1 < (m : Int) by rw [← hyj]; exact HYM.out _ (List.getElem_mem _))
          have IB := hide (ib j hj1)
          rw [hyj] at IB
          clear ib
          have hf' := hf
          rw [hxi, hyj] at hf'
          obtain ⟨fv, hfv⟩ : ∃ fv, f y1 x1 = fv := ⟨_, rfl⟩
          rw [hfv] at hf'
          have HFV := hide hfv
          clear hfv
          have d3 : decide (fv < 0) = false := by simpa using hf'
          have HF := hide hf
          clear hf
          gi_wp2
          obtain ⟨W1, hW1⟩ : ∃ W1, wr = W1 := ⟨_, rfl⟩
          have K1 : Below wr.heap.size wr W1 := by rw [← hW1]; exact Below.refl _ wr
          rw [hW1]
          have HWW := hide hW1
          clear hW1 cA cB cC
          have B1 : Hid (BelX X n₀ w W1) := hide (hB.out.trans (BelX.of K1 (Nat.le_trans hw hB.out.size)))
          have WC : Hid (∀ (U : World), Below W1.heap.size W1 U → ∀ (p : Addr), p.block < n₀ ∧ ¬ X p.block → U.cell? p = w.cell? p) := hide (fun U k p hp => (B1.out.trans (BelX.of k (Nat.le_trans hw B1.out.size))).cell hp.1 hp.2)
          have CF : Hid (∀ U, Below W1.heap.size W1 U → U.cell? ⟨Ba, 0, none⟩ = some (.slice (some ⟨ga, oa, none⟩) xs.length ca) ∧ U.cell? ⟨Bb, 0, none⟩ = some (.slice (some ⟨gb, ob, none⟩) ys.length cb) ∧ U.cell? ⟨Bc, 0, none⟩ = some (.func (.func cg) #[] cl) ∧ U.cell? ⟨ga, oa + i, none⟩ = some (.int .i64 x1) ∧ U.cell? ⟨gb, ob + j, none⟩ = some (.int .i64 y1)) := hide (fun U k => ⟨(WC.out U k ⟨Ba, 0, none⟩ lA).trans BA.out.cell, (WC.out U k ⟨Bb, 0, none⟩ lB).trans BB.out.cell, (WC.out U k ⟨Bc, 0, none⟩ lC).trans BC.out.cell, (WC.out U k ⟨ga, _, none⟩ Ga).trans IA.out, (WC.out U k ⟨gb, _, none⟩ Gb).trans IB.out⟩)
          refine wpIn_wide.2 ?_
          have K : Below W1.heap.size W1 W1.drew := (Below.refl _ _).drew
          first | go_region_held3 (fun u => u.cell? ⟨Ba, 0, none⟩ = some (.slice (some ⟨ga, oa, none⟩) xs.length ca) ∧ u.cell? ⟨Bb, 0, none⟩ = some (.slice (some ⟨gb, ob, none⟩) ys.length cb) ∧ u.cell? ⟨Bc, 0, none⟩ = some (.func (.func cg) #[] cl) ∧ u.cell? ⟨ga, oa + i, none⟩ = some (.int .i64 x1) ∧ u.cell? ⟨gb, ob + j, none⟩ = some (.int .i64 y1))
            (first | with_reducible exact CF.out _ K | go_keep)
            (first | (go_at_fn cg; (with_reducible refine (HC.out _ y1 x1 (HII.out _ _ HIw.out (B1.out.trans (BelX.of K (Nat.le_trans hw B1.out.size)))) HY1.out.1 HY1.out.2 HX1.out.1 HX1.out.2).mono ?_); rintro e w8 ⟨rfl, hb⟩; rw [HFV.out]; replace K := K.trans (hb.mono K.size); clear hb)) | fail "region"
          obtain ⟨f0, f1, f2, f3, f4⟩ := CF.out _ K
          have HU : Below wr.heap.size wr w8 := K1.trans (K.mono K1.size)
          have Jp := HJ.out pre wr _ none hJw (ograwn HU) (fun r e => by cases e)
          obtain ⟨fn, tmps, assign, body, hy, hR⟩ := HY.out pre x1 _ Jp (by omega)
          dsimp only [ntEncs, ntV] at hy
          have HU := hide HU
          clear K K1 CF WC B1
          gi_wp2
          refine hR.mono ?_
          rintro e W3 (⟨rfl, hJ3, hk3⟩ | ⟨rfl, hJx3⟩)
          · have hB3 := hide (hB.out.trans ((BelX.of HU.out (Nat.le_trans hw hB.out.size)).trans hk3))
            have hs3 := Nat.le_trans hWr (Nat.le_trans HU.out.size hk3.size)
            gi_wp2
            go_roundw
            case rel => exact ⟨i + 1, j, _, by simp, rfl, by omega, by omega, hide (by rw [← hpre.out, mrg_ge hi1 hj1 hxi hyj HF.out]; simp), by simp; omega, hB3, hs3, hJ3⟩
            case measure => simp [intOf]; omega
          · gi_wp2
            refine bodyPost_ret (results_none rfl _ _ _) rfl ?_
            refine ⟨⟨_, rfl⟩, .inr ⟨_, ?_, hJx3⟩⟩
            rw [← hpre.out, mrg_ge hi1 hj1 hxi hyj HF.out]
            exact ⟨mrg f (xs.drop (i + 1)) (ys.drop j), by simp⟩
      · skip
        have q1 : (i : Int) < (xs.length : Int) := by omega
        have d1 : decide ((i : Int) < (xs.length : Int)) = true := by simp; omega
        have e1 : ((i : Int) == (xs.length : Int)) = false := by simp; omega
        obtain ⟨ga, oa, rfl, Ga, la, ia⟩ := RA.out (by omega)
        obtain ⟨x1, hxi⟩ : ∃ x, xs[i] = x := ⟨_, rfl⟩
        have HX1 := hide (show 0 ≤ x1 ∧ x1 < (m : Int) by rw [← hxi]; exact HXM.out _ (List.getElem_mem _))
        have IA := hide (ia i hi1)
        rw [hxi] at IA
        clear ia
        have q2 : ¬ (j : Int) < (ys.length : Int) := by omega
        have d2 : decide ((j : Int) < (ys.length : Int)) = false := by simp; omega
        skip
        gi_wp2
        obtain ⟨W1, hW1⟩ : ∃ W1, wr = W1 := ⟨_, rfl⟩
        have K1 : Below wr.heap.size wr W1 := by rw [← hW1]; exact Below.refl _ wr
        rw [hW1]
        have HWW := hide hW1
        clear hW1 cA cB cC
        have B1 : Hid (BelX X n₀ w W1) := hide (hB.out.trans (BelX.of K1 (Nat.le_trans hw hB.out.size)))
        have WC : Hid (∀ (U : World), Below W1.heap.size W1 U → ∀ (p : Addr), p.block < n₀ ∧ ¬ X p.block → U.cell? p = w.cell? p) := hide (fun U k p hp => (B1.out.trans (BelX.of k (Nat.le_trans hw B1.out.size))).cell hp.1 hp.2)
        have CF : Hid (∀ U, Below W1.heap.size W1 U → U.cell? ⟨Ba, 0, none⟩ = some (.slice (some ⟨ga, oa, none⟩) xs.length ca) ∧ U.cell? ⟨Bb, 0, none⟩ = some (.slice bo ys.length cb) ∧ U.cell? ⟨Bc, 0, none⟩ = some (.func (.func cg) #[] cl) ∧ U.cell? ⟨ga, oa + i, none⟩ = some (.int .i64 x1)) := hide (fun U k => ⟨(WC.out U k ⟨Ba, 0, none⟩ lA).trans BA.out.cell, (WC.out U k ⟨Bb, 0, none⟩ lB).trans BB.out.cell, (WC.out U k ⟨Bc, 0, none⟩ lC).trans BC.out.cell, (WC.out U k ⟨ga, _, none⟩ Ga).trans IA.out⟩)
        refine wpIn_wide.2 ?_
        obtain ⟨f0, f1, f2, f3⟩ := CF.out W1 (Below.refl _ _)
        go_quiet (fail)
        obtain ⟨w8, hU⟩ : ∃ U, W1.drewN nq = U := ⟨_, rfl⟩
        have K : Below W1.heap.size W1 w8 := by rw [← hU]; exact obel_drewN W1 nq
        rw [hU]
        clear hU f0 f1 f2 f3
        obtain ⟨f0, f1, f2, f3⟩ := CF.out _ K
        have HU : Below wr.heap.size wr w8 := K1.trans (K.mono K1.size)
        have Jp := HJ.out pre wr _ none hJw (ograwn HU) (fun r e => by cases e)
        obtain ⟨fn, tmps, assign, body, hy, hR⟩ := HY.out pre x1 _ Jp (by omega)
        dsimp only [ntEncs, ntV] at hy
        have HU := hide HU
        clear K K1 CF WC B1
        gi_wp2
        refine hR.mono ?_
        rintro e W3 (⟨rfl, hJ3, hk3⟩ | ⟨rfl, hJx3⟩)
        · have hB3 := hide (hB.out.trans ((BelX.of HU.out (Nat.le_trans hw hB.out.size)).trans hk3))
          have hs3 := Nat.le_trans hWr (Nat.le_trans HU.out.size hk3.size)
          gi_wp2
          go_roundw
          case rel => exact ⟨i + 1, j, _, by simp, rfl, by omega, by omega, hide (by rw [← hpre.out, mrg_a hi1 hj1 hxi]; simp), by simp; omega, hB3, hs3, hJ3⟩
          case measure => simp [intOf]; omega
        · gi_wp2
          refine bodyPost_ret (results_none rfl _ _ _) rfl ?_
          refine ⟨⟨_, rfl⟩, .inr ⟨_, ?_, hJx3⟩⟩
          rw [← hpre.out, mrg_a hi1 hj1 hxi]
          exact ⟨mrg f (xs.drop (i + 1)) (ys.drop j), by simp⟩
    · by_cases hj1 : j < ys.length
      · skip
        have q1 : ¬ (i : Int) < (xs.length : Int) := by omega
        have d1 : decide ((i : Int) < (xs.length : Int)) = false := by simp; omega
        have e1 : ((i : Int) == (xs.length : Int)) = true := by simp; omega
        have q2 : (j : Int) < (ys.length : Int) := by omega
        have d2 : decide ((j : Int) < (ys.length : Int)) = true := by simp; omega
        obtain ⟨gb, ob, rfl, Gb, lb, ib⟩ := RB.out (by omega)
        obtain ⟨y1, hyj⟩ : ∃ y, ys[j] = y := ⟨_, rfl⟩
        have HY1 := hide (show 0 ≤ y1 ∧ y1 < (m : Int) by rw [← hyj]; exact HYM.out _ (List.getElem_mem _))
        have IB := hide (ib j hj1)
        rw [hyj] at IB
        clear ib
        skip
        gi_wp2
        obtain ⟨W1, hW1⟩ : ∃ W1, wr = W1 := ⟨_, rfl⟩
        have K1 : Below wr.heap.size wr W1 := by rw [← hW1]; exact Below.refl _ wr
        rw [hW1]
        have HWW := hide hW1
        clear hW1 cA cB cC
        have B1 : Hid (BelX X n₀ w W1) := hide (hB.out.trans (BelX.of K1 (Nat.le_trans hw hB.out.size)))
        have WC : Hid (∀ (U : World), Below W1.heap.size W1 U → ∀ (p : Addr), p.block < n₀ ∧ ¬ X p.block → U.cell? p = w.cell? p) := hide (fun U k p hp => (B1.out.trans (BelX.of k (Nat.le_trans hw B1.out.size))).cell hp.1 hp.2)
        have CF : Hid (∀ U, Below W1.heap.size W1 U → U.cell? ⟨Ba, 0, none⟩ = some (.slice ao xs.length ca) ∧ U.cell? ⟨Bb, 0, none⟩ = some (.slice (some ⟨gb, ob, none⟩) ys.length cb) ∧ U.cell? ⟨Bc, 0, none⟩ = some (.func (.func cg) #[] cl) ∧ U.cell? ⟨gb, ob + j, none⟩ = some (.int .i64 y1)) := hide (fun U k => ⟨(WC.out U k ⟨Ba, 0, none⟩ lA).trans BA.out.cell, (WC.out U k ⟨Bb, 0, none⟩ lB).trans BB.out.cell, (WC.out U k ⟨Bc, 0, none⟩ lC).trans BC.out.cell, (WC.out U k ⟨gb, _, none⟩ Gb).trans IB.out⟩)
        refine wpIn_wide.2 ?_
        obtain ⟨f0, f1, f2, f3⟩ := CF.out W1 (Below.refl _ _)
        go_quiet (fail)
        obtain ⟨w8, hU⟩ : ∃ U, W1.drewN nq = U := ⟨_, rfl⟩
        have K : Below W1.heap.size W1 w8 := by rw [← hU]; exact obel_drewN W1 nq
        rw [hU]
        clear hU f0 f1 f2 f3
        obtain ⟨f0, f1, f2, f3⟩ := CF.out _ K
        have HU : Below wr.heap.size wr w8 := K1.trans (K.mono K1.size)
        have Jp := HJ.out pre wr _ none hJw (ograwn HU) (fun r e => by cases e)
        obtain ⟨fn, tmps, assign, body, hy, hR⟩ := HY.out pre y1 _ Jp (by omega)
        dsimp only [ntEncs, ntV] at hy
        have HU := hide HU
        clear K K1 CF WC B1
        gi_wp2
        refine hR.mono ?_
        rintro e W3 (⟨rfl, hJ3, hk3⟩ | ⟨rfl, hJx3⟩)
        · have hB3 := hide (hB.out.trans ((BelX.of HU.out (Nat.le_trans hw hB.out.size)).trans hk3))
          have hs3 := Nat.le_trans hWr (Nat.le_trans HU.out.size hk3.size)
          gi_wp2
          go_roundw
          case rel => exact ⟨i, j + 1, _, rfl, by simp, by omega, by omega, hide (by rw [← hpre.out, mrg_b hi1 hj1 hyj]; simp), by simp; omega, hB3, hs3, hJ3⟩
          case measure => simp [intOf]; omega
        · gi_wp2
          refine bodyPost_ret (results_none rfl _ _ _) rfl ?_
          refine ⟨⟨_, rfl⟩, .inr ⟨_, ?_, hJx3⟩⟩
          rw [← hpre.out, mrg_b hi1 hj1 hyj]
          exact ⟨mrg f (xs.drop i) (ys.drop (j + 1)), by simp⟩
      · obtain rfl : i = xs.length := by omega
        obtain rfl : j = ys.length := by omega
        gi_wp2
        go_end0
        exact ⟨⟨_, rfl⟩, .inl ⟨pre, by have := hpre.out; simpa [mrg] using this, hJw⟩⟩

/-- the iterator, over two lists that lie in boxes -/
theorem ntmerged_stops {n Ba Bb Bc n₀ m : Nat} {X : Nat → Prop} {I : World → Prop} {w : World} {va vb cv : Value} {xs ys : List Int} {f : Int → Int → Int} (hn : 1 ≤ n)
    (bA : Boxed w Ba 63 va) (bB : Boxed w Bb 63 vb) (bC : Boxed w Bc 62 cv) (lA : Ba < n₀ ∧ ¬ X Ba) (lB : Bb < n₀ ∧ ¬ X Bb) (lC : Bc < n₀ ∧ ¬ X Bc)
    (ha : NtRd (fun g => g < n₀ ∧ ¬ X g) w va xs) (hb : NtRd (fun g => g < n₀ ∧ ¬ X g) w vb ys) (hc : CmpIsN I cv m f) (hIw : I w) (hI : ∀ W W', I W → BelX X n₀ W W' → I W') (hw : n₀ ≤ w.heap.size) (hx : xs.length ≤ 4611686018427387903) (hy : ys.length ≤ 4611686018427387903) (hxm : ∀ x ∈ xs, 0 ≤ x ∧ x < (m : Int)) (hym : ∀ x ∈ ys, 0 ≤ x ∧ x < (m : Int)) :
    SeqStopsK Fence.wide n Try.prog 42 #[.pointer (some ⟨Ba, 0, none⟩), .pointer (some ⟨Bb, 0, none⟩), .pointer (some ⟨Bc, 0, none⟩)] ntEncs (BelX X n₀) (fun zs => zs = mrg f xs ys) (fun pre => pre <+: mrg f xs ys) (xs.length + ys.length) w := fun l J Jx W hW hJ _ hY h0 =>
  ntmerged1_in hn bA bB bC lA lB lC ha hb hc hIw hI hw (Nat.le_refl _) hx hy hxm hym J Jx hY W hJ hW h0

end Go.Proofs.Ytboikfcmbfaaeaa

namespace Go.Proofs.Ytboikfcmbfaaeaa
open Go.RowKit Go.Shelf
set_option linter.unusedVariables false
attribute [local go_sem] Oper.semAt_some

theorem ntmerged_box {w : World} {ao bo : Option Addr} {la ca lb cb g : Nat} {cs : Array Value} : Calls Try.prog 41 #[.slice ao la ca, .slice bo lb cb, .func (.func g) #[] cs] w fun e w' => e = .returned (.func (.func 42) #[] #[.pointer (some ⟨w.heap.size, 0, none⟩), .pointer (some ⟨w.heap.size + 1, 0, none⟩), .pointer (some ⟨w.heap.size + 2, 0, none⟩)]) ∧ Boxed w' w.heap.size 63 (.slice ao la ca) ∧ Boxed w' (w.heap.size + 1) 63 (.slice bo lb cb) ∧ Boxed w' (w.heap.size + 2) 62 (.func (.func g) #[] cs) ∧ Below w.heap.size w w' := by
  refine ntmerged_any.mono ?_
  rintro e w' ⟨rfl, rfl⟩
  refine ⟨rfl, ((Boxed.new _ _ _).alloc _).alloc _, ?_, ?_, ((((Below.refl _ w).alloc (Nat.le_refl _) _).alloc (by simp) _).alloc (by simp; omega) _)⟩
  · have := (Boxed.new (w.alloc (.cells #[.slice ao la ca] 63)) 63 (.slice bo lb cb)).alloc (.cells #[.func (.func g) #[] cs] 62)
    simpa using this
  · have := Boxed.new ((w.alloc (.cells #[.slice ao la ca] 63)).alloc (.cells #[.slice bo lb cb] 63)) 62 (.func (.func g) #[] cs)
    simpa using this

/-- between two rounds of the inner loop -/
def OIN (gi Bt Bi ci n k : Nat) (dn : List Int) (w8 : World) (pre : List Int) (W : World) : Prop := ∃ zs, NtRow W gi zs ∧ zs.length = n ∧ zs.take (k + pre.length) = dn ++ pre ∧ Boxed W Bt 3 (.int .i64 ((k + pre.length : Nat) : Int)) ∧ Boxed W Bi 63 (.slice (some ⟨gi, 0, none⟩) n ci) ∧ BelX (fun k => k = gi ∨ k = Bt) w8.heap.size w8 W
theorem oiN_own {gi Bt Bi ci n k : Nat} {dn : List Int} {w8 : World} (h1 : gi < w8.heap.size) (h2 : Bt < w8.heap.size) (h3 : Bi < w8.heap.size) : OwnFrom w8.heap.size (OIN gi Bt Bi ci n k dn w8) := by
  rintro pre W W' row ⟨zs, a, b, c, d, e, f⟩ hg hr
  have ne : ∀ r, r < w8.heap.size → some r ≠ row := fun r h e => by have := (hr r e.symm).1; omega
  exact ⟨zs, a.keep (hg.block gi a.lt (ne _ h1)), b, c, d.kept hg (ne _ h2), e.kept hg (ne _ h3), f.trans (BelX.grown hg f.size (fun r e => .inl (hr r e).1))⟩
theorem oiN_start {gi Bt Bi ci n k : Nat} {dn zs : List Int} {w8 : World} (h : NtRow w8 gi zs) (h1 : zs.length = n) (h2 : zs.take k = dn) (b : Boxed w8 Bt 3 (.int .i64 k)) (c : Boxed w8 Bi 63 (.slice (some ⟨gi, 0, none⟩) n ci)) : OIN gi Bt Bi ci n k dn w8 [] w8 := ⟨zs, h, h1, by simpa using h2, b, c, BelX.refl _ _ _⟩

theorem oiN_step {gi Bt Bi ci n k m : Nat} {dn : List Int} {w8 : World} {pre : List Int} {W : World} (h : OIN gi Bt Bi ci n k dn w8 pre W) (hm : k + pre.length = m) (hml : m < n) (h1 : Bt ≠ gi) (h2 : Bi ≠ gi) (h3 : Bi ≠ Bt) (x : Int) :
    OIN gi Bt Bi ci n k dn w8 (pre ++ [x]) ((W.setCell ⟨gi, m, none⟩ (.int .i64 x)).setCell ⟨Bt, 0, none⟩ (.int .i64 ((m : Int) + 1))) ∧ BelX (fun k => k = gi ∨ k = Bt) w8.heap.size W ((W.setCell ⟨gi, m, none⟩ (.int .i64 x)).setCell ⟨Bt, 0, none⟩ (.int .i64 ((m : Int) + 1))) ∧ KeepsFrom w8.heap.size W ((W.setCell ⟨gi, m, none⟩ (.int .i64 x)).setCell ⟨Bt, 0, none⟩ (.int .i64 ((m : Int) + 1))) := by
  obtain ⟨zs, a, b, c, d, e, f⟩ := h
  rw [hm] at c d
  have g1 := (grown_set2 W gi m (.int .i64 x))
  have bx : BelX (fun k => k = gi ∨ k = Bt) w8.heap.size W ((W.setCell ⟨gi, m, none⟩ (.int .i64 x)).setCell ⟨Bt, 0, none⟩ (.int .i64 ((m : Int) + 1))) := (belx_set _ _ (.inl rfl)).trans (belx_set _ _ (.inr rfl))
  refine ⟨⟨zs.set m x, ?_, by rw [List.length_set]; exact b, ?_, ?_, ?_, f.trans bx⟩, bx, ((KeepsOthers.setCell _ _ _).trans (KeepsOthers.setCell _ _ _)).from _⟩
  · exact (a.set (i := m) (by omega) x).keep (heap_setCell_other _ _ _ _ (fun e => h1 e.symm))
  · rw [List.length_append, List.length_singleton, ← Nat.add_assoc, hm, take_set_next (by omega) c, List.append_assoc]
  · have := (d.kept g1 (fun e => h1 (by cases e; rfl))).set (.int .i64 ((m : Int) + 1))
    rw [List.length_append, List.length_singleton, ← Nat.add_assoc, hm]
    simpa using this
  · exact (e.kept g1 (fun e => h2 (by cases e; rfl))).other h3 _

set_option maxRecDepth 100000 in
set_option maxHeartbeats 8000000 in
theorem ntruns_any {w : World} {gi ci s m : Nat} {va cv : Value} {xs ws : List Int} {I : World → Prop} {f : Int → Int → Int} (hs : 0 < s) (hs2 : s ≤ 1152921504606846976) (hx : xs.length ≤ 1152921504606846976) (hr : NtRow w gi ws) (hw : ws.length = xs.length) (hci : xs.length ≤ ci) (hcm : ci ≤ maxLen)
    (ha : NtRd (fun g => g ≠ gi) w va xs) (hc : CmpIsN I cv m f) (hxm : ∀ x ∈ xs, 0 ≤ x ∧ x < (m : Int)) (hIw : I w) (hI : ∀ W W', I W → BelX (fun k => k = gi) w.heap.size W W' → I W') :
    Calls Try.prog 39 #[.slice (some ⟨gi, 0, none⟩) xs.length ci, va, .int .i64 s, cv] w fun e w' => e = .returned (.tuple #[]) ∧ NtRow w' gi (runs f s xs) ∧ BelX (fun k => k = gi) w.heap.size w w' := by
  have hcc := hc
  obtain ⟨cg, cl, rfl, eg, hcall⟩ := hc.val
  have haa := ha
  obtain ⟨ao, ca, rfl, hac, ham, hacl⟩ := ha
  have HA := hide haa
  have HCC := hide hcc
  have HR := hide hr
  have HIw := hide hIw
  have HI := hide hI
  have HACL := hide hacl
  have hgi := hr.lt
  unfold maxLen at hcm ham
  clear hcc hc hcall haa hacl hr hIw hI
  have HXM := hide hxm
  clear hxm
  refine (callsIn_wide (n := 4)).1 ?_
  refine callsIn_of_wp_marks Try.func39 rfl trivial ?_ rfl
  simp only [Try.ntmps39, List.size_toArray, List.length_cons, List.length_nil, Nat.reduceAdd, Nat.reduceSub, Array.replicate_succ, Array.replicate_zero, List.push_toArray, List.append_toArray, List.nil_append, List.cons_append]
  refine wpIn_wide.2 ?_
  go_wp2
  refine wp_loop (fun a W => ∃ (k : Nat) (Ds : List Nat) (dn : List Int) (zs : List Int) (x9 x10 x11 x12 x13 x14 x15 x16 x17 x18 x19 x20 x21 x22 x23 x24 x25 x26 x27 x28 x29 x30 x31 x32 x33 x34 x35 x36 x37 x38 x39 x40 x41 x42 x43 x44 : Value), a = { tmps := #[.slice (some ⟨gi, 0, none⟩) xs.length ci, .slice ao xs.length ca, .int .i64 s, .func (.func cg) #[] cl, .pointer (some ⟨w.heap.size, 0, none⟩), undef, undef, undef, .pointer (some ⟨w.heap.size + 1, 0, none⟩), x9, x10, x11, x12, x13, x14, x15, x16, x17, x18, x19, x20, x21, x22, x23, x24, x25, x26, x27, x28, x29, x30, x31, x32, x33, x34, x35, x36, x37, x38, x39, x40, x41, x42, x43, x44], defers := Ds.map mark } ∧ k ≤ xs.length ∧ dn.length = k ∧ dn ++ runs f s (xs.drop k) = runs f s xs ∧ NtRow W gi zs ∧ zs.length = xs.length ∧ zs.take k = dn ∧ Boxed W w.heap.size 63 (.slice (some ⟨gi, 0, none⟩) xs.length ci) ∧ Boxed W (w.heap.size + 1) 3 (.int .i64 k) ∧ BelX (fun k => k = gi) w.heap.size w W ∧ (∀ D ∈ Ds, w.heap.size + 2 ≤ D ∧ W.heap[D]? = some (.deferred (some []))) ∧ Ds.Nodup) (fun a W => xs.length - (intOf ((W.cell? ⟨w.heap.size + 1, 0, none⟩).getD undef)).toNat) ?_ ?_
  · have bI := (Boxed.new w 63 (.slice (some ⟨gi, 0, none⟩) xs.length ci)).alloc (.cells #[.int .i64 0] 3)
    have bT := Boxed.new (w.alloc (.cells #[.slice (some ⟨gi, 0, none⟩) xs.length ci] 63)) 3 (.int .i64 0)
    have hb2 : Below w.heap.size w ((w.alloc (.cells #[.slice (some ⟨gi, 0, none⟩) xs.length ci] 63)).alloc (.cells #[.int .i64 0] 3)) := ((Below.refl _ w).alloc (Nat.le_refl _) _).alloc (by simp) _
    rw [World.size_alloc] at bT
    exact ⟨0, [], [], ws, undef, undef, undef, undef, undef, undef, undef, undef, undef, undef, undef, undef, undef, undef, undef, undef, undef, undef, undef, undef, undef, undef, undef, undef, undef, undef, undef, undef, undef, undef, undef, undef, undef, undef, undef, undef, rfl, by omega, rfl, by simp, HR.out.keep (hb2.block _ hgi), hw, by simp, bI, bT, BelX.of hb2 (Nat.le_refl _), by simp, by simp⟩
  · rintro a W ⟨k, Ds, dn, zs, x9, x10, x11, x12, x13, x14, x15, x16, x17, x18, x19, x20, x21, x22, x23, x24, x25, x26, x27, x28, x29, x30, x31, x32, x33, x34, x35, x36, x37, x38, x39, x40, x41, x42, x43, x44, rfl, hk, hdl, hdn, hrow, hzl, hzt, bI, bT, hB, hDs, hnd⟩
    have cI := bI.cell
    have cT := bT.cell
    by_cases hkl : k < xs.length
    · have q1 : (k : Int) < (xs.length : Int) := by omega
      have q0 : (k : Int) ≤ (xs.length : Int) := by omega
      obtain ⟨ga, oa, rfl, ga1, ga2, ia⟩ := HACL.out (by omega)
      have IA := hide ia
      clear ia
      have HB := hide hB
      have HROW := hide hrow
      have BI := hide bI
      have HZT := hide hzt
      have HDN := hide hdn
      have HDS := hide hDs
      have n1 : ¬ ca = k := by omega
      clear hB hrow bI hzt hdn hDs cI
      by_cases h1 : k + s < xs.length
      · obtain ⟨M, hM⟩ : ∃ M, M = k + s := ⟨_, rfl⟩
        have e1 : (k : Int) + (s : Int) = (M : Int) := by omega
        have q2 : (M : Int) ≤ (xs.length : Int) := by omega
        have q3 : (k : Int) ≤ (M : Int) := by omega
        have n2 : k ≤ M := by omega
        have n3 : M ≤ ca := by omega
        have HM := hide (show M = min (k + s) xs.length by omega)
        clear hM
        by_cases h2 : M + s ≤ xs.length
        · obtain ⟨E, hE⟩ : ∃ E, E = M + s := ⟨_, rfl⟩
          have e2 : (M : Int) + (s : Int) = (E : Int) := by omega
          have q4 : (E : Int) ≤ (xs.length : Int) := by omega
          have q5 : (M : Int) ≤ (E : Int) := by omega
          have n4 : ¬ ca = M := by omega
          have n5 : M ≤ E := by omega
          have n6 : E ≤ ca := by omega
          have HE := hide (show E = min (M + s) xs.length by omega)
          clear hE h2
          have K : Below W.heap.size W W.drew := (Below.refl _ _).drew
          have HT := hide bT
          have CF := hide (fun U (k' : Below W.heap.size W U) => (k'.cell (p := ⟨w.heap.size + 1, 0, none⟩) HT.out.lt).trans HT.out.cell)
          go_wp2
          first | go_region_held3 (fun u => u.cell? ⟨w.heap.size + 1, 0, none⟩ = some (.int .i64 k))
            (first | with_reducible exact CF.out _ K | go_keep)
            (first | (go_at_call 41; (with_reducible refine ntmerged_box.mono ?_); rintro e w8 ⟨rfl, b1, b2, b3, hb⟩; have KX := K; replace K := K.trans (hb.mono K.size); clear hb)) | fail "region"
          have hsz : W.heap.size + 3 ≤ w8.heap.size := by have := b3.lt; simp at this; omega
          have hwW := HB.out.size
          have hbtW := HT.out.lt
          have hB8 : BelX (fun k => k = gi) w.heap.size w w8 := HB.out.trans (BelX.of K hwW)
          have hrow8 : NtRow w8 gi zs := HROW.out.keep (K.block _ HROW.out.lt)
          have bI8 : Boxed w8 w.heap.size 63 (.slice (some ⟨gi, 0, none⟩) xs.length ci) := (K.block _ BI.out.lt).trans BI.out
          have bT8 : Boxed w8 (w.heap.size + 1) 3 (.int .i64 k) := (K.block _ HT.out.lt).trans HT.out
          have RA : NtRd (fun g => g < w8.heap.size ∧ ¬ (g = gi ∨ g = w.heap.size + 1)) w8 (.slice (some ⟨ga, oa + k, none⟩) (M - k) (ca - k)) ((xs.drop k).take s) := sub_rdN IA.out hB8 ga1 ga2 ⟨by omega, by omega⟩ (run_al xs HM.out) (by omega) (by omega) (run_a xs HM.out) (by omega) (by unfold maxLen; omega)
          have RB : NtRd (fun g => g < w8.heap.size ∧ ¬ (g = gi ∨ g = w.heap.size + 1)) w8 (.slice (some ⟨ga, oa + M, none⟩) (E - M) (ca - M)) (((xs.drop k).drop s).take s) := sub_rdN IA.out hB8 ga1 ga2 ⟨by omega, by omega⟩ (run_bl xs HM.out HE.out) (by omega) (by omega) (run_b xs HM.out HE.out) (by omega) (by unfold maxLen; omega)
          have hI8 := hide (HI.out w w8 HIw.out hB8)
          have hIm := hide (fun (U U' : World) (h : I U) (kk : BelX (fun k => k = gi ∨ k = w.heap.size + 1) w8.heap.size U U') => HI.out U U' h (kk.mono (m := w.heap.size) (by omega) (fun j hj h => h.resolve_right (by omega))))
          have hseq := ntmerged_stops (n := 3) (X := (fun k => k = gi ∨ k = w.heap.size + 1)) (n₀ := w8.heap.size) (by omega) b1 b2 b3 ⟨by have := b1.lt; simpa using this, by simp; omega⟩ ⟨by have := b2.lt; simpa using this, by simp; omega⟩ ⟨by have := b3.lt; simpa using this, by simp; omega⟩ RA RB HCC.out hI8.out hIm.out (Nat.le_refl _) (by rw [run_al xs HM.out]; omega) (by rw [run_bl xs HM.out HE.out]; omega) (fun x hx => HXM.out x (List.mem_of_mem_drop (List.mem_of_mem_take hx))) (fun x hx => HXM.out x (List.mem_of_mem_drop (List.mem_of_mem_drop (List.mem_of_mem_take hx))))
          obtain ⟨Z, hZ⟩ : ∃ Z, mrg f ((xs.drop k).take s) (((xs.drop k).drop s).take s) = Z := ⟨_, rfl⟩
          have hZl : Z.length = E - k := by rw [← hZ, mrg_len, run_al xs HM.out, run_bl xs HM.out HE.out]; omega
          have hN : ((xs.drop k).take s).length + (((xs.drop k).drop s).take s).length = E - k := by rw [run_al xs HM.out, run_bl xs HM.out HE.out]; omega
          have hnx := run_next f hs hkl HM.out HE.out
          rw [hZ, hN] at hseq
          rw [hZ] at hnx
          have HSEQ := hide hseq
          have HNX := hide hnx
          have HK := hide K
          have HB8 := hide hB8
          clear hseq hnx K hB8 RA RB hZ hN b1 b2 b3 hI8 hIm CF KX
          have hgi8 : gi < w8.heap.size := by omega
          have hbt8 : w.heap.size + 1 < w8.heap.size := by omega
          have hbi8 : w.heap.size < w8.heap.size := by omega
          go_wp2_with fail
          refine (wpIn_wide (n := 4)).1 ?_
          refine' wpIn_rangeFunc_ownH rfl (by omega) (gf := 42) (lb := #[.pointer (some ⟨W.heap.size, 0, none⟩), .pointer (some ⟨W.heap.size + 1, 0, none⟩), .pointer (some ⟨W.heap.size + 2, 0, none⟩)]) (by simp [go_sem]) trivial (enters_of Try.func42 (by kernel_rfl) rfl)
            HSEQ.out BelX.trans (fun W l o o' hl _ _ _ => belx_putObj o' hl) (Below.refl _ _) (fun _ => rfl)
            (fun pre W' => OIN gi (w.heap.size + 1) w.heap.size ci xs.length k dn w8 pre W')
            (fun _ _ _ => False) (oiN_own (by omega) (by omega) (by omega)) (fun _ _ _ _ _ hs _ _ => hs) (oiN_start hrow8 hzl HZT.out bT8 bI8)
            (fun x a' _ => a' = { tmps := #[.slice (some ⟨gi, 0, none⟩) xs.length ci, .slice (some ⟨ga, oa, none⟩) xs.length ca, .int .i64 s, .func (.func cg) #[] cl, .pointer (some ⟨w.heap.size, 0, none⟩), undef, undef, undef, .pointer (some ⟨w.heap.size + 1, 0, none⟩), .int .i64 M, .int .i64 E, ntV x, .int .i64 k, .slice (some ⟨ga, oa, none⟩) xs.length ca, .int .i64 xs.length, .bool true, .int .i64 k, .int .i64 s, .int .i64 (M), .slice (some ⟨ga, oa, none⟩) xs.length ca, .int .i64 xs.length, .int .i64 M, .int .i64 M, .int .i64 s, .int .i64 (E), .slice (some ⟨ga, oa, none⟩) xs.length ca, .int .i64 xs.length, .int .i64 E, .slice (some ⟨ga, oa, none⟩) xs.length ca, .int .i64 k, .int .i64 M, .slice (some ⟨ga, oa + k, none⟩) (M - k) (ca - k), .slice (some ⟨ga, oa, none⟩) xs.length ca, .int .i64 M, .int .i64 E, .slice (some ⟨ga, oa + M, none⟩) (E - M) (ca - M), .func (.func cg) #[] cl, .func (.func 42) #[] #[.pointer (some ⟨W.heap.size, 0, none⟩), .pointer (some ⟨W.heap.size + 1, 0, none⟩), .pointer (some ⟨W.heap.size + 2, 0, none⟩)], ntV x, x39, x40, x41, x42, x43, x44], defers := [] }) ?hAx ?hassign ?hbody ?hdone ?hstop
          case hAx =>
            exact fun x a' u X Y row h _ _ => h
          case hassign =>
            rintro l pre x W' K hi hK
            gi_wp2
            have hs8 := hi.choose_spec.2.2.2.2.2.size
            exact hK _ _ (KeepsFrom.refl _ _) (BelX.refl _ _ _) hi rfl
          case hbody =>
            rintro l pre x a' W' hl hr ⟨zs', r1, r2, r3, r4, r5, r6⟩ rfl hlt
            have c4 := r4.cell
            have c5 := r5.cell
            have f4 := r4.frozen
            obtain ⟨m, hm⟩ : ∃ m, k + pre.length = m := ⟨_, rfl⟩
            rw [hm] at c4 r3 r4
            have hml : m < xs.length := by omega
            have q6 : (m : Int) < (xs.length : Int) := by omega
            have fz0 := r1.frozen m
            have cz0 := r1.cell (i := m) (by omega)
            have HR1 := hide r1
            have HR3 := hide r3
            have HR4 := hide r4
            have HR5 := hide r5
            have HR6 := hide r6
            have HMM := hide hm
            clear r1 r3 r4 r5 r6 hm
            have HOI := hide (oiN_step ⟨zs', HR1.out, r2, by rw [HMM.out]; exact HR3.out, by rw [HMM.out]; exact HR4.out, HR5.out, HR6.out⟩ HMM.out hml (by omega) (by omega) (by omega) (x))
            gi_wp2
            exact ⟨HOI.out.2.2, HOI.out.2.1, HOI.out.1⟩
          case hdone =>
            rintro D ys W' hD rfl ⟨zs', r1, r2, r3, r4, r5, r6⟩ hK
            have hkE : k + ys.length = E := by omega
            rw [hkE] at r3 r4
            have HX := hide (marks_more HDS.out hnd (fun F hF => (r6.block F (by have := (Array.getElem?_eq_some_iff.1 (HDS.out F hF).2).1; omega) (by have := (HDS.out F hF).1; omega)).trans (HK.out.block F (Array.getElem?_eq_some_iff.1 (HDS.out F hF).2).1)) hK (by omega) (show w.heap.size + 2 ≤ D by omega))
            have HBB := hide (HB8.out.trans (r6.mono (m := w.heap.size) (by omega) (fun j hj h => h.resolve_right (by omega))))
            have HDD := hide (show (dn ++ ys) ++ runs f s (xs.drop E) = runs f s xs by rw [List.append_assoc, ← HNX.out, HDN.out])
            have c1 := HT.out.cell
            have c2 := r4.cell
            have R1 := hide r1
            have R3 := hide r3
            have R4 := hide r4
            have R5 := hide r5
            have CC := hide (And.intro c1 c2)
            clear r1 r3 r4 r5 r6 hK c1 c2
            go_wp2
            refine ⟨⟨E, D :: Ds, dn ++ ys, zs', _, _, _, _, _, _, _, _, _, _, _, _, _, _, _, _, _, _, _, _, _, _, _, _, _, _, _, _, _, _, _, _, _, _, _, _, rfl, by omega, by rw [List.length_append]; omega, HDD.out, R1.out, r2, R3.out, R5.out, R4.out, HBB.out, HX.out.1, HX.out.2⟩, ?_⟩
            rw [CC.out.1, CC.out.2]
            simp [intOf]
            omega
          case hstop =>
            rintro D c pre W' hD hpx h hK
            exact h.elim
        · have q4 : ¬ (M : Int) + (s : Int) ≤ (xs.length : Int) := by omega
          have q5 : (M : Int) ≤ (xs.length : Int) := by omega
          have n4 : ¬ ca = M := by omega
          have n5 : M ≤ xs.length := by omega
          have n6 : xs.length ≤ ca := by omega
          have HE := hide (show xs.length = min (M + s) xs.length by omega)
          clear h2
          have K : Below W.heap.size W W.drew := (Below.refl _ _).drew
          have HT := hide bT
          have CF := hide (fun U (k' : Below W.heap.size W U) => (k'.cell (p := ⟨w.heap.size + 1, 0, none⟩) HT.out.lt).trans HT.out.cell)
          go_wp2
          first | go_region_held3 (fun u => u.cell? ⟨w.heap.size + 1, 0, none⟩ = some (.int .i64 k))
            (first | with_reducible exact CF.out _ K | go_keep)
            (first | (go_at_call 41; (with_reducible refine ntmerged_box.mono ?_); rintro e w8 ⟨rfl, b1, b2, b3, hb⟩; have KX := K; replace K := K.trans (hb.mono K.size); clear hb)) | fail "region"
          have hsz : W.heap.size + 3 ≤ w8.heap.size := by have := b3.lt; simp at this; omega
          have hwW := HB.out.size
          have hbtW := HT.out.lt
          have hB8 : BelX (fun k => k = gi) w.heap.size w w8 := HB.out.trans (BelX.of K hwW)
          have hrow8 : NtRow w8 gi zs := HROW.out.keep (K.block _ HROW.out.lt)
          have bI8 : Boxed w8 w.heap.size 63 (.slice (some ⟨gi, 0, none⟩) xs.length ci) := (K.block _ BI.out.lt).trans BI.out
          have bT8 : Boxed w8 (w.heap.size + 1) 3 (.int .i64 k) := (K.block _ HT.out.lt).trans HT.out
          have RA : NtRd (fun g => g < w8.heap.size ∧ ¬ (g = gi ∨ g = w.heap.size + 1)) w8 (.slice (some ⟨ga, oa + k, none⟩) (M - k) (ca - k)) ((xs.drop k).take s) := sub_rdN IA.out hB8 ga1 ga2 ⟨by omega, by omega⟩ (run_al xs HM.out) (by omega) (by omega) (run_a xs HM.out) (by omega) (by unfold maxLen; omega)
          have RB : NtRd (fun g => g < w8.heap.size ∧ ¬ (g = gi ∨ g = w.heap.size + 1)) w8 (.slice (some ⟨ga, oa + M, none⟩) (xs.length - M) (ca - M)) (((xs.drop k).drop s).take s) := sub_rdN IA.out hB8 ga1 ga2 ⟨by omega, by omega⟩ (run_bl xs HM.out HE.out) (by omega) (by omega) (run_b xs HM.out HE.out) (by omega) (by unfold maxLen; omega)
          have hI8 := hide (HI.out w w8 HIw.out hB8)
          have hIm := hide (fun (U U' : World) (h : I U) (kk : BelX (fun k => k = gi ∨ k = w.heap.size + 1) w8.heap.size U U') => HI.out U U' h (kk.mono (m := w.heap.size) (by omega) (fun j hj h => h.resolve_right (by omega))))
          have hseq := ntmerged_stops (n := 3) (X := (fun k => k = gi ∨ k = w.heap.size + 1)) (n₀ := w8.heap.size) (by omega) b1 b2 b3 ⟨by have := b1.lt; simpa using this, by simp; omega⟩ ⟨by have := b2.lt; simpa using this, by simp; omega⟩ ⟨by have := b3.lt; simpa using this, by simp; omega⟩ RA RB HCC.out hI8.out hIm.out (Nat.le_refl _) (by rw [run_al xs HM.out]; omega) (by rw [run_bl xs HM.out HE.out]; omega) (fun x hx => HXM.out x (List.mem_of_mem_drop (List.mem_of_mem_take hx))) (fun x hx => HXM.out x (List.mem_of_mem_drop (List.mem_of_mem_drop (List.mem_of_mem_take hx))))
          obtain ⟨Z, hZ⟩ : ∃ Z, mrg f ((xs.drop k).take s) (((xs.drop k).drop s).take s) = Z := ⟨_, rfl⟩
          have hZl : Z.length = xs.length - k := by rw [← hZ, mrg_len, run_al xs HM.out, run_bl xs HM.out HE.out]; omega
          have hN : ((xs.drop k).take s).length + (((xs.drop k).drop s).take s).length = xs.length - k := by rw [run_al xs HM.out, run_bl xs HM.out HE.out]; omega
          have hnx := run_next f hs hkl HM.out HE.out
          rw [hZ, hN] at hseq
          rw [hZ] at hnx
          have HSEQ := hide hseq
          have HNX := hide hnx
          have HK := hide K
          have HB8 := hide hB8
          clear hseq hnx K hB8 RA RB hZ hN b1 b2 b3 hI8 hIm CF KX
          have hgi8 : gi < w8.heap.size := by omega
          have hbt8 : w.heap.size + 1 < w8.heap.size := by omega
          have hbi8 : w.heap.size < w8.heap.size := by omega
          go_wp2_with fail
          refine (wpIn_wide (n := 4)).1 ?_
          refine' wpIn_rangeFunc_ownH rfl (by omega) (gf := 42) (lb := #[.pointer (some ⟨W.heap.size, 0, none⟩), .pointer (some ⟨W.heap.size + 1, 0, none⟩), .pointer (some ⟨W.heap.size + 2, 0, none⟩)]) (by simp [go_sem]) trivial (enters_of Try.func42 (by kernel_rfl) rfl)
            HSEQ.out BelX.trans (fun W l o o' hl _ _ _ => belx_putObj o' hl) (Below.refl _ _) (fun _ => rfl)
            (fun pre W' => OIN gi (w.heap.size + 1) w.heap.size ci xs.length k dn w8 pre W')
            (fun _ _ _ => False) (oiN_own (by omega) (by omega) (by omega)) (fun _ _ _ _ _ hs _ _ => hs) (oiN_start hrow8 hzl HZT.out bT8 bI8)
            (fun x a' _ => a' = { tmps := #[.slice (some ⟨gi, 0, none⟩) xs.length ci, .slice (some ⟨ga, oa, none⟩) xs.length ca, .int .i64 s, .func (.func cg) #[] cl, .pointer (some ⟨w.heap.size, 0, none⟩), undef, undef, undef, .pointer (some ⟨w.heap.size + 1, 0, none⟩), .int .i64 M, .int .i64 xs.length, ntV x, .int .i64 k, .slice (some ⟨ga, oa, none⟩) xs.length ca, .int .i64 xs.length, .bool true, .int .i64 k, .int .i64 s, .int .i64 (M), .slice (some ⟨ga, oa, none⟩) xs.length ca, .int .i64 xs.length, .int .i64 M, .int .i64 M, .int .i64 s, .int .i64 ((M : Int) + (s : Int)), .slice (some ⟨ga, oa, none⟩) xs.length ca, .int .i64 xs.length, .int .i64 xs.length, .slice (some ⟨ga, oa, none⟩) xs.length ca, .int .i64 k, .int .i64 M, .slice (some ⟨ga, oa + k, none⟩) (M - k) (ca - k), .slice (some ⟨ga, oa, none⟩) xs.length ca, .int .i64 M, .int .i64 xs.length, .slice (some ⟨ga, oa + M, none⟩) (xs.length - M) (ca - M), .func (.func cg) #[] cl, .func (.func 42) #[] #[.pointer (some ⟨W.heap.size, 0, none⟩), .pointer (some ⟨W.heap.size + 1, 0, none⟩), .pointer (some ⟨W.heap.size + 2, 0, none⟩)], ntV x, x39, x40, x41, x42, x43, x44], defers := [] }) ?hAx ?hassign ?hbody ?hdone ?hstop
          case hAx =>
            exact fun x a' u X Y row h _ _ => h
          case hassign =>
            rintro l pre x W' K hi hK
            gi_wp2
            have hs8 := hi.choose_spec.2.2.2.2.2.size
            exact hK _ _ (KeepsFrom.refl _ _) (BelX.refl _ _ _) hi rfl
          case hbody =>
            rintro l pre x a' W' hl hr ⟨zs', r1, r2, r3, r4, r5, r6⟩ rfl hlt
            have c4 := r4.cell
            have c5 := r5.cell
            have f4 := r4.frozen
            obtain ⟨m, hm⟩ : ∃ m, k + pre.length = m := ⟨_, rfl⟩
            rw [hm] at c4 r3 r4
            have hml : m < xs.length := by omega
            have q6 : (m : Int) < (xs.length : Int) := by omega
            have fz0 := r1.frozen m
            have cz0 := r1.cell (i := m) (by omega)
            have HR1 := hide r1
            have HR3 := hide r3
            have HR4 := hide r4
            have HR5 := hide r5
            have HR6 := hide r6
            have HMM := hide hm
            clear r1 r3 r4 r5 r6 hm
            have HOI := hide (oiN_step ⟨zs', HR1.out, r2, by rw [HMM.out]; exact HR3.out, by rw [HMM.out]; exact HR4.out, HR5.out, HR6.out⟩ HMM.out hml (by omega) (by omega) (by omega) (x))
            gi_wp2
            exact ⟨HOI.out.2.2, HOI.out.2.1, HOI.out.1⟩
          case hdone =>
            rintro D ys W' hD rfl ⟨zs', r1, r2, r3, r4, r5, r6⟩ hK
            have hkE : k + ys.length = xs.length := by omega
            rw [hkE] at r3 r4
            have HX := hide (marks_more HDS.out hnd (fun F hF => (r6.block F (by have := (Array.getElem?_eq_some_iff.1 (HDS.out F hF).2).1; omega) (by have := (HDS.out F hF).1; omega)).trans (HK.out.block F (Array.getElem?_eq_some_iff.1 (HDS.out F hF).2).1)) hK (by omega) (show w.heap.size + 2 ≤ D by omega))
            have HBB := hide (HB8.out.trans (r6.mono (m := w.heap.size) (by omega) (fun j hj h => h.resolve_right (by omega))))
            have HDD := hide (show (dn ++ ys) ++ runs f s (xs.drop xs.length) = runs f s xs by rw [List.append_assoc, ← HNX.out, HDN.out])
            have c1 := HT.out.cell
            have c2 := r4.cell
            have R1 := hide r1
            have R3 := hide r3
            have R4 := hide r4
            have R5 := hide r5
            have CC := hide (And.intro c1 c2)
            clear r1 r3 r4 r5 r6 hK c1 c2
            go_wp2
            refine ⟨⟨xs.length, D :: Ds, dn ++ ys, zs', _, _, _, _, _, _, _, _, _, _, _, _, _, _, _, _, _, _, _, _, _, _, _, _, _, _, _, _, _, _, _, _, _, _, _, _, rfl, by omega, by rw [List.length_append]; omega, HDD.out, R1.out, r2, R3.out, R5.out, R4.out, HBB.out, HX.out.1, HX.out.2⟩, ?_⟩
            rw [CC.out.1, CC.out.2]
            simp [intOf]
            omega
          case hstop =>
            rintro D c pre W' hD hpx h hK
            exact h.elim
      · have HM := hide (show xs.length = min (k + s) xs.length by omega)
        have HE := hide (show xs.length = min (xs.length + s) xs.length by omega)
        have q4 : ¬ (xs.length : Int) + (s : Int) ≤ (xs.length : Int) := by omega
        have n3 : xs.length ≤ ca := by omega
        have n2 : k ≤ xs.length := by omega
        by_cases h3 : k + s = xs.length
        · have e1 : (k : Int) + (s : Int) = (xs.length : Int) := by omega
          clear h3
          by_cases n4 : ca = xs.length
          · subst n4
            have K : Below W.heap.size W W.drew := (Below.refl _ _).drew
            have HT := hide bT
            have CF := hide (fun U (k' : Below W.heap.size W U) => (k'.cell (p := ⟨w.heap.size + 1, 0, none⟩) HT.out.lt).trans HT.out.cell)
            go_wp2
            first | go_region_held3 (fun u => u.cell? ⟨w.heap.size + 1, 0, none⟩ = some (.int .i64 k))
              (first | with_reducible exact CF.out _ K | go_keep)
              (first | (go_at_call 41; (with_reducible refine ntmerged_box.mono ?_); rintro e w8 ⟨rfl, b1, b2, b3, hb⟩; have KX := K; replace K := K.trans (hb.mono K.size); clear hb)) | fail "region"
            have hsz : W.heap.size + 3 ≤ w8.heap.size := by have := b3.lt; simp at this; omega
            have hwW := HB.out.size
            have hbtW := HT.out.lt
            have hB8 : BelX (fun k => k = gi) w.heap.size w w8 := HB.out.trans (BelX.of K hwW)
            have hrow8 : NtRow w8 gi zs := HROW.out.keep (K.block _ HROW.out.lt)
            have bI8 : Boxed w8 w.heap.size 63 (.slice (some ⟨gi, 0, none⟩) xs.length ci) := (K.block _ BI.out.lt).trans BI.out
            have bT8 : Boxed w8 (w.heap.size + 1) 3 (.int .i64 k) := (K.block _ HT.out.lt).trans HT.out
            have RA : NtRd (fun g => g < w8.heap.size ∧ ¬ (g = gi ∨ g = w.heap.size + 1)) w8 (.slice (some ⟨ga, oa + k, none⟩) (xs.length - k) (xs.length - k)) ((xs.drop k).take s) := sub_rdN IA.out hB8 ga1 ga2 ⟨by omega, by omega⟩ (run_al xs HM.out) (by omega) (by omega) (run_a xs HM.out) (by omega) (by unfold maxLen; omega)
            have RB : NtRd (fun g => g < w8.heap.size ∧ ¬ (g = gi ∨ g = w.heap.size + 1)) w8 (.slice (some ⟨ga, oa, none⟩) 0 0) (((xs.drop k).drop s).take s) := nil_rdN (by omega) (List.eq_nil_of_length_eq_zero (by rw [run_bl xs HM.out HE.out]; omega)) (by unfold maxLen; omega)
            have hI8 := hide (HI.out w w8 HIw.out hB8)
            have hIm := hide (fun (U U' : World) (h : I U) (kk : BelX (fun k => k = gi ∨ k = w.heap.size + 1) w8.heap.size U U') => HI.out U U' h (kk.mono (m := w.heap.size) (by omega) (fun j hj h => h.resolve_right (by omega))))
            have hseq := ntmerged_stops (n := 3) (X := (fun k => k = gi ∨ k = w.heap.size + 1)) (n₀ := w8.heap.size) (by omega) b1 b2 b3 ⟨by have := b1.lt; simpa using this, by simp; omega⟩ ⟨by have := b2.lt; simpa using this, by simp; omega⟩ ⟨by have := b3.lt; simpa using this, by simp; omega⟩ RA RB HCC.out hI8.out hIm.out (Nat.le_refl _) (by rw [run_al xs HM.out]; omega) (by rw [run_bl xs HM.out HE.out]; omega) (fun x hx => HXM.out x (List.mem_of_mem_drop (List.mem_of_mem_take hx))) (fun x hx => HXM.out x (List.mem_of_mem_drop (List.mem_of_mem_drop (List.mem_of_mem_take hx))))
            obtain ⟨Z, hZ⟩ : ∃ Z, mrg f ((xs.drop k).take s) (((xs.drop k).drop s).take s) = Z := ⟨_, rfl⟩
            have hZl : Z.length = xs.length - k := by rw [← hZ, mrg_len, run_al xs HM.out, run_bl xs HM.out HE.out]; omega
            have hN : ((xs.drop k).take s).length + (((xs.drop k).drop s).take s).length = xs.length - k := by rw [run_al xs HM.out, run_bl xs HM.out HE.out]; omega
            have hnx := run_next f hs hkl HM.out HE.out
            rw [hZ, hN] at hseq
            rw [hZ] at hnx
            have HSEQ := hide hseq
            have HNX := hide hnx
            have HK := hide K
            have HB8 := hide hB8
            clear hseq hnx K hB8 RA RB hZ hN b1 b2 b3 hI8 hIm CF KX
            have hgi8 : gi < w8.heap.size := by omega
            have hbt8 : w.heap.size + 1 < w8.heap.size := by omega
            have hbi8 : w.heap.size < w8.heap.size := by omega
            go_wp2_with fail
            refine (wpIn_wide (n := 4)).1 ?_
            refine' wpIn_rangeFunc_ownH rfl (by omega) (gf := 42) (lb := #[.pointer (some ⟨W.heap.size, 0, none⟩), .pointer (some ⟨W.heap.size + 1, 0, none⟩), .pointer (some ⟨W.heap.size + 2, 0, none⟩)]) (by simp [go_sem]) trivial (enters_of Try.func42 (by kernel_rfl) rfl)
              HSEQ.out BelX.trans (fun W l o o' hl _ _ _ => belx_putObj o' hl) (Below.refl _ _) (fun _ => rfl)
              (fun pre W' => OIN gi (w.heap.size + 1) w.heap.size ci xs.length k dn w8 pre W')
              (fun _ _ _ => False) (oiN_own (by omega) (by omega) (by omega)) (fun _ _ _ _ _ hs _ _ => hs) (oiN_start hrow8 hzl HZT.out bT8 bI8)
              (fun x a' _ => a' = { tmps := #[.slice (some ⟨gi, 0, none⟩) xs.length ci, .slice (some ⟨ga, oa, none⟩) xs.length xs.length, .int .i64 s, .func (.func cg) #[] cl, .pointer (some ⟨w.heap.size, 0, none⟩), undef, undef, undef, .pointer (some ⟨w.heap.size + 1, 0, none⟩), .int .i64 xs.length, .int .i64 xs.length, ntV x, .int .i64 k, .slice (some ⟨ga, oa, none⟩) xs.length xs.length, .int .i64 xs.length, .bool true, .int .i64 k, .int .i64 s, .int .i64 (xs.length), .slice (some ⟨ga, oa, none⟩) xs.length xs.length, .int .i64 xs.length, .int .i64 xs.length, .int .i64 xs.length, .int .i64 s, .int .i64 ((xs.length : Int) + (s : Int)), .slice (some ⟨ga, oa, none⟩) xs.length xs.length, .int .i64 xs.length, .int .i64 xs.length, .slice (some ⟨ga, oa, none⟩) xs.length xs.length, .int .i64 k, .int .i64 xs.length, .slice (some ⟨ga, oa + k, none⟩) (xs.length - k) (xs.length - k), .slice (some ⟨ga, oa, none⟩) xs.length xs.length, .int .i64 xs.length, .int .i64 xs.length, .slice (some ⟨ga, oa, none⟩) 0 0, .func (.func cg) #[] cl, .func (.func 42) #[] #[.pointer (some ⟨W.heap.size, 0, none⟩), .pointer (some ⟨W.heap.size + 1, 0, none⟩), .pointer (some ⟨W.heap.size + 2, 0, none⟩)], ntV x, x39, x40, x41, x42, x43, x44], defers := [] }) ?hAx ?hassign ?hbody ?hdone ?hstop
            case hAx =>
              exact fun x a' u X Y row h _ _ => h
            case hassign =>
              rintro l pre x W' K hi hK
              gi_wp2
              have hs8 := hi.choose_spec.2.2.2.2.2.size
              exact hK _ _ (KeepsFrom.refl _ _) (BelX.refl _ _ _) hi rfl
            case hbody =>
              rintro l pre x a' W' hl hr ⟨zs', r1, r2, r3, r4, r5, r6⟩ rfl hlt
              have c4 := r4.cell
              have c5 := r5.cell
              have f4 := r4.frozen
              obtain ⟨m, hm⟩ : ∃ m, k + pre.length = m := ⟨_, rfl⟩
              rw [hm] at c4 r3 r4
              have hml : m < xs.length := by omega
              have q6 : (m : Int) < (xs.length : Int) := by omega
              have fz0 := r1.frozen m
              have cz0 := r1.cell (i := m) (by omega)
              have HR1 := hide r1
              have HR3 := hide r3
              have HR4 := hide r4
              have HR5 := hide r5
              have HR6 := hide r6
              have HMM := hide hm
              clear r1 r3 r4 r5 r6 hm
              have HOI := hide (oiN_step ⟨zs', HR1.out, r2, by rw [HMM.out]; exact HR3.out, by rw [HMM.out]; exact HR4.out, HR5.out, HR6.out⟩ HMM.out hml (by omega) (by omega) (by omega) (x))
              gi_wp2
              exact ⟨HOI.out.2.2, HOI.out.2.1, HOI.out.1⟩
            case hdone =>
              rintro D ys W' hD rfl ⟨zs', r1, r2, r3, r4, r5, r6⟩ hK
              have hkE : k + ys.length = xs.length := by omega
              rw [hkE] at r3 r4
              have HX := hide (marks_more HDS.out hnd (fun F hF => (r6.block F (by have := (Array.getElem?_eq_some_iff.1 (HDS.out F hF).2).1; omega) (by have := (HDS.out F hF).1; omega)).trans (HK.out.block F (Array.getElem?_eq_some_iff.1 (HDS.out F hF).2).1)) hK (by omega) (show w.heap.size + 2 ≤ D by omega))
              have HBB := hide (HB8.out.trans (r6.mono (m := w.heap.size) (by omega) (fun j hj h => h.resolve_right (by omega))))
              have HDD := hide (show (dn ++ ys) ++ runs f s (xs.drop xs.length) = runs f s xs by rw [List.append_assoc, ← HNX.out, HDN.out])
              have c1 := HT.out.cell
              have c2 := r4.cell
              have R1 := hide r1
              have R3 := hide r3
              have R4 := hide r4
              have R5 := hide r5
              have CC := hide (And.intro c1 c2)
              clear r1 r3 r4 r5 r6 hK c1 c2
              go_wp2
              refine ⟨⟨xs.length, D :: Ds, dn ++ ys, zs', _, _, _, _, _, _, _, _, _, _, _, _, _, _, _, _, _, _, _, _, _, _, _, _, _, _, _, _, _, _, _, _, _, _, _, _, rfl, by omega, by rw [List.length_append]; omega, HDD.out, R1.out, r2, R3.out, R5.out, R4.out, HBB.out, HX.out.1, HX.out.2⟩, ?_⟩
              rw [CC.out.1, CC.out.2]
              simp [intOf]
              omega
            case hstop =>
              rintro D c pre W' hD hpx h hK
              exact h.elim
          · skip
            have K : Below W.heap.size W W.drew := (Below.refl _ _).drew
            have HT := hide bT
            have CF := hide (fun U (k' : Below W.heap.size W U) => (k'.cell (p := ⟨w.heap.size + 1, 0, none⟩) HT.out.lt).trans HT.out.cell)
            go_wp2
            first | go_region_held3 (fun u => u.cell? ⟨w.heap.size + 1, 0, none⟩ = some (.int .i64 k))
              (first | with_reducible exact CF.out _ K | go_keep)
              (first | (go_at_call 41; (with_reducible refine ntmerged_box.mono ?_); rintro e w8 ⟨rfl, b1, b2, b3, hb⟩; have KX := K; replace K := K.trans (hb.mono K.size); clear hb)) | fail "region"
            have hsz : W.heap.size + 3 ≤ w8.heap.size := by have := b3.lt; simp at this; omega
            have hwW := HB.out.size
            have hbtW := HT.out.lt
            have hB8 : BelX (fun k => k = gi) w.heap.size w w8 := HB.out.trans (BelX.of K hwW)
            have hrow8 : NtRow w8 gi zs := HROW.out.keep (K.block _ HROW.out.lt)
            have bI8 : Boxed w8 w.heap.size 63 (.slice (some ⟨gi, 0, none⟩) xs.length ci) := (K.block _ BI.out.lt).trans BI.out
            have bT8 : Boxed w8 (w.heap.size + 1) 3 (.int .i64 k) := (K.block _ HT.out.lt).trans HT.out
            have RA : NtRd (fun g => g < w8.heap.size ∧ ¬ (g = gi ∨ g = w.heap.size + 1)) w8 (.slice (some ⟨ga, oa + k, none⟩) (xs.length - k) (ca - k)) ((xs.drop k).take s) := sub_rdN IA.out hB8 ga1 ga2 ⟨by omega, by omega⟩ (run_al xs HM.out) (by omega) (by omega) (run_a xs HM.out) (by omega) (by unfold maxLen; omega)
            have RB : NtRd (fun g => g < w8.heap.size ∧ ¬ (g = gi ∨ g = w.heap.size + 1)) w8 (.slice (some ⟨ga, oa + xs.length, none⟩) 0 (ca - xs.length)) (((xs.drop k).drop s).take s) := nil_rdN (by omega) (List.eq_nil_of_length_eq_zero (by rw [run_bl xs HM.out HE.out]; omega)) (by unfold maxLen; omega)
            have hI8 := hide (HI.out w w8 HIw.out hB8)
            have hIm := hide (fun (U U' : World) (h : I U) (kk : BelX (fun k => k = gi ∨ k = w.heap.size + 1) w8.heap.size U U') => HI.out U U' h (kk.mono (m := w.heap.size) (by omega) (fun j hj h => h.resolve_right (by omega))))
            have hseq := ntmerged_stops (n := 3) (X := (fun k => k = gi ∨ k = w.heap.size + 1)) (n₀ := w8.heap.size) (by omega) b1 b2 b3 ⟨by have := b1.lt; simpa using this, by simp; omega⟩ ⟨by have := b2.lt; simpa using this, by simp; omega⟩ ⟨by have := b3.lt; simpa using this, by simp; omega⟩ RA RB HCC.out hI8.out hIm.out (Nat.le_refl _) (by rw [run_al xs HM.out]; omega) (by rw [run_bl xs HM.out HE.out]; omega) (fun x hx => HXM.out x (List.mem_of_mem_drop (List.mem_of_mem_take hx))) (fun x hx => HXM.out x (List.mem_of_mem_drop (List.mem_of_mem_drop (List.mem_of_mem_take hx))))
            obtain ⟨Z, hZ⟩ : ∃ Z, mrg f ((xs.drop k).take s) (((xs.drop k).drop s).take s) = Z := ⟨_, rfl⟩
            have hZl : Z.length = xs.length - k := by rw [← hZ, mrg_len, run_al xs HM.out, run_bl xs HM.out HE.out]; omega
            have hN : ((xs.drop k).take s).length + (((xs.drop k).drop s).take s).length = xs.length - k := by rw [run_al xs HM.out, run_bl xs HM.out HE.out]; omega
            have hnx := run_next f hs hkl HM.out HE.out
            rw [hZ, hN] at hseq
            rw [hZ] at hnx
            have HSEQ := hide hseq
            have HNX := hide hnx
            have HK := hide K
            have HB8 := hide hB8
            clear hseq hnx K hB8 RA RB hZ hN b1 b2 b3 hI8 hIm CF KX
            have hgi8 : gi < w8.heap.size := by omega
            have hbt8 : w.heap.size + 1 < w8.heap.size := by omega
            have hbi8 : w.heap.size < w8.heap.size := by omega
            go_wp2_with fail
            refine (wpIn_wide (n := 4)).1 ?_
            refine' wpIn_rangeFunc_ownH rfl (by omega) (gf := 42) (lb := #[.pointer (some ⟨W.heap.size, 0, none⟩), .pointer (some ⟨W.heap.size + 1, 0, none⟩), .pointer (some ⟨W.heap.size + 2, 0, none⟩)]) (by simp [go_sem]) trivial (enters_of Try.func42 (by kernel_rfl) rfl)
              HSEQ.out BelX.trans (fun W l o o' hl _ _ _ => belx_putObj o' hl) (Below.refl _ _) (fun _ => rfl)
              (fun pre W' => OIN gi (w.heap.size + 1) w.heap.size ci xs.length k dn w8 pre W')
              (fun _ _ _ => False) (oiN_own (by omega) (by omega) (by omega)) (fun _ _ _ _ _ hs _ _ => hs) (oiN_start hrow8 hzl HZT.out bT8 bI8)
              (fun x a' _ => a' = { tmps := #[.slice (some ⟨gi, 0, none⟩) xs.length ci, .slice (some ⟨ga, oa, none⟩) xs.length ca, .int .i64 s, .func (.func cg) #[] cl, .pointer (some ⟨w.heap.size, 0, none⟩), undef, undef, undef, .pointer (some ⟨w.heap.size + 1, 0, none⟩), .int .i64 xs.length, .int .i64 xs.length, ntV x, .int .i64 k, .slice (some ⟨ga, oa, none⟩) xs.length ca, .int .i64 xs.length, .bool true, .int .i64 k, .int .i64 s, .int .i64 (xs.length), .slice (some ⟨ga, oa, none⟩) xs.length ca, .int .i64 xs.length, .int .i64 xs.length, .int .i64 xs.length, .int .i64 s, .int .i64 ((xs.length : Int) + (s : Int)), .slice (some ⟨ga, oa, none⟩) xs.length ca, .int .i64 xs.length, .int .i64 xs.length, .slice (some ⟨ga, oa, none⟩) xs.length ca, .int .i64 k, .int .i64 xs.length, .slice (some ⟨ga, oa + k, none⟩) (xs.length - k) (ca - k), .slice (some ⟨ga, oa, none⟩) xs.length ca, .int .i64 xs.length, .int .i64 xs.length, .slice (some ⟨ga, oa + xs.length, none⟩) 0 (ca - xs.length), .func (.func cg) #[] cl, .func (.func 42) #[] #[.pointer (some ⟨W.heap.size, 0, none⟩), .pointer (some ⟨W.heap.size + 1, 0, none⟩), .pointer (some ⟨W.heap.size + 2, 0, none⟩)], ntV x, x39, x40, x41, x42, x43, x44], defers := [] }) ?hAx ?hassign ?hbody ?hdone ?hstop
            case hAx =>
              exact fun x a' u X Y row h _ _ => h
            case hassign =>
              rintro l pre x W' K hi hK
              gi_wp2
              have hs8 := hi.choose_spec.2.2.2.2.2.size
              exact hK _ _ (KeepsFrom.refl _ _) (BelX.refl _ _ _) hi rfl
            case hbody =>
              rintro l pre x a' W' hl hr ⟨zs', r1, r2, r3, r4, r5, r6⟩ rfl hlt
              have c4 := r4.cell
              have c5 := r5.cell
              have f4 := r4.frozen
              obtain ⟨m, hm⟩ : ∃ m, k + pre.length = m := ⟨_, rfl⟩
              rw [hm] at c4 r3 r4
              have hml : m < xs.length := by omega
              have q6 : (m : Int) < (xs.length : Int) := by omega
              have fz0 := r1.frozen m
              have cz0 := r1.cell (i := m) (by omega)
              have HR1 := hide r1
              have HR3 := hide r3
              have HR4 := hide r4
              have HR5 := hide r5
              have HR6 := hide r6
              have HMM := hide hm
              clear r1 r3 r4 r5 r6 hm
              have HOI := hide (oiN_step ⟨zs', HR1.out, r2, by rw [HMM.out]; exact HR3.out, by rw [HMM.out]; exact HR4.out, HR5.out, HR6.out⟩ HMM.out hml (by omega) (by omega) (by omega) (x))
              gi_wp2
              exact ⟨HOI.out.2.2, HOI.out.2.1, HOI.out.1⟩
            case hdone =>
              rintro D ys W' hD rfl ⟨zs', r1, r2, r3, r4, r5, r6⟩ hK
              have hkE : k + ys.length = xs.length := by omega
              rw [hkE] at r3 r4
              have HX := hide (marks_more HDS.out hnd (fun F hF => (r6.block F (by have := (Array.getElem?_eq_some_iff.1 (HDS.out F hF).2).1; omega) (by have := (HDS.out F hF).1; omega)).trans (HK.out.block F (Array.getElem?_eq_some_iff.1 (HDS.out F hF).2).1)) hK (by omega) (show w.heap.size + 2 ≤ D by omega))
              have HBB := hide (HB8.out.trans (r6.mono (m := w.heap.size) (by omega) (fun j hj h => h.resolve_right (by omega))))
              have HDD := hide (show (dn ++ ys) ++ runs f s (xs.drop xs.length) = runs f s xs by rw [List.append_assoc, ← HNX.out, HDN.out])
              have c1 := HT.out.cell
              have c2 := r4.cell
              have R1 := hide r1
              have R3 := hide r3
              have R4 := hide r4
              have R5 := hide r5
              have CC := hide (And.intro c1 c2)
              clear r1 r3 r4 r5 r6 hK c1 c2
              go_wp2
              refine ⟨⟨xs.length, D :: Ds, dn ++ ys, zs', _, _, _, _, _, _, _, _, _, _, _, _, _, _, _, _, _, _, _, _, _, _, _, _, _, _, _, _, _, _, _, _, _, _, _, _, rfl, by omega, by rw [List.length_append]; omega, HDD.out, R1.out, r2, R3.out, R5.out, R4.out, HBB.out, HX.out.1, HX.out.2⟩, ?_⟩
              rw [CC.out.1, CC.out.2]
              simp [intOf]
              omega
            case hstop =>
              rintro D c pre W' hD hpx h hK
              exact h.elim
        · have q2 : ¬ (k : Int) + (s : Int) ≤ (xs.length : Int) := by omega
          clear h3
          by_cases n4 : ca = xs.length
          · subst n4
            have K : Below W.heap.size W W.drew := (Below.refl _ _).drew
            have HT := hide bT
            have CF := hide (fun U (k' : Below W.heap.size W U) => (k'.cell (p := ⟨w.heap.size + 1, 0, none⟩) HT.out.lt).trans HT.out.cell)
            go_wp2
            first | go_region_held3 (fun u => u.cell? ⟨w.heap.size + 1, 0, none⟩ = some (.int .i64 k))
              (first | with_reducible exact CF.out _ K | go_keep)
              (first | (go_at_call 41; (with_reducible refine ntmerged_box.mono ?_); rintro e w8 ⟨rfl, b1, b2, b3, hb⟩; have KX := K; replace K := K.trans (hb.mono K.size); clear hb)) | fail "region"
            have hsz : W.heap.size + 3 ≤ w8.heap.size := by have := b3.lt; simp at this; omega
            have hwW := HB.out.size
            have hbtW := HT.out.lt
            have hB8 : BelX (fun k => k = gi) w.heap.size w w8 := HB.out.trans (BelX.of K hwW)
            have hrow8 : NtRow w8 gi zs := HROW.out.keep (K.block _ HROW.out.lt)
            have bI8 : Boxed w8 w.heap.size 63 (.slice (some ⟨gi, 0, none⟩) xs.length ci) := (K.block _ BI.out.lt).trans BI.out
            have bT8 : Boxed w8 (w.heap.size + 1) 3 (.int .i64 k) := (K.block _ HT.out.lt).trans HT.out
            have RA : NtRd (fun g => g < w8.heap.size ∧ ¬ (g = gi ∨ g = w.heap.size + 1)) w8 (.slice (some ⟨ga, oa + k, none⟩) (xs.length - k) (xs.length - k)) ((xs.drop k).take s) := sub_rdN IA.out hB8 ga1 ga2 ⟨by omega, by omega⟩ (run_al xs HM.out) (by omega) (by omega) (run_a xs HM.out) (by omega) (by unfold maxLen; omega)
            have RB : NtRd (fun g => g < w8.heap.size ∧ ¬ (g = gi ∨ g = w.heap.size + 1)) w8 (.slice (some ⟨ga, oa, none⟩) 0 0) (((xs.drop k).drop s).take s) := nil_rdN (by omega) (List.eq_nil_of_length_eq_zero (by rw [run_bl xs HM.out HE.out]; omega)) (by unfold maxLen; omega)
            have hI8 := hide (HI.out w w8 HIw.out hB8)
            have hIm := hide (fun (U U' : World) (h : I U) (kk : BelX (fun k => k = gi ∨ k = w.heap.size + 1) w8.heap.size U U') => HI.out U U' h (kk.mono (m := w.heap.size) (by omega) (fun j hj h => h.resolve_right (by omega))))
            have hseq := ntmerged_stops (n := 3) (X := (fun k => k = gi ∨ k = w.heap.size + 1)) (n₀ := w8.heap.size) (by omega) b1 b2 b3 ⟨by have := b1.lt; simpa using this, by simp; omega⟩ ⟨by have := b2.lt; simpa using this, by simp; omega⟩ ⟨by have := b3.lt; simpa using this, by simp; omega⟩ RA RB HCC.out hI8.out hIm.out (Nat.le_refl _) (by rw [run_al xs HM.out]; omega) (by rw [run_bl xs HM.out HE.out]; omega) (fun x hx => HXM.out x (List.mem_of_mem_drop (List.mem_of_mem_take hx))) (fun x hx => HXM.out x (List.mem_of_mem_drop (List.mem_of_mem_drop (List.mem_of_mem_take hx))))
            obtain ⟨Z, hZ⟩ : ∃ Z, mrg f ((xs.drop k).take s) (((xs.drop k).drop s).take s) = Z := ⟨_, rfl⟩
            have hZl : Z.length = xs.length - k := by rw [← hZ, mrg_len, run_al xs HM.out, run_bl xs HM.out HE.out]; omega
            have hN : ((xs.drop k).take s).length + (((xs.drop k).drop s).take s).length = xs.length - k := by rw [run_al xs HM.out, run_bl xs HM.out HE.out]; omega
            have hnx := run_next f hs hkl HM.out HE.out
            rw [hZ, hN] at hseq
            rw [hZ] at hnx
            have HSEQ := hide hseq
            have HNX := hide hnx
            have HK := hide K
            have HB8 := hide hB8
            clear hseq hnx K hB8 RA RB hZ hN b1 b2 b3 hI8 hIm CF KX
            have hgi8 : gi < w8.heap.size := by omega
            have hbt8 : w.heap.size + 1 < w8.heap.size := by omega
            have hbi8 : w.heap.size < w8.heap.size := by omega
            go_wp2_with fail
            refine (wpIn_wide (n := 4)).1 ?_
            refine' wpIn_rangeFunc_ownH rfl (by omega) (gf := 42) (lb := #[.pointer (some ⟨W.heap.size, 0, none⟩), .pointer (some ⟨W.heap.size + 1, 0, none⟩), .pointer (some ⟨W.heap.size + 2, 0, none⟩)]) (by simp [go_sem]) trivial (enters_of Try.func42 (by kernel_rfl) rfl)
              HSEQ.out BelX.trans (fun W l o o' hl _ _ _ => belx_putObj o' hl) (Below.refl _ _) (fun _ => rfl)
              (fun pre W' => OIN gi (w.heap.size + 1) w.heap.size ci xs.length k dn w8 pre W')
              (fun _ _ _ => False) (oiN_own (by omega) (by omega) (by omega)) (fun _ _ _ _ _ hs _ _ => hs) (oiN_start hrow8 hzl HZT.out bT8 bI8)
              (fun x a' _ => a' = { tmps := #[.slice (some ⟨gi, 0, none⟩) xs.length ci, .slice (some ⟨ga, oa, none⟩) xs.length xs.length, .int .i64 s, .func (.func cg) #[] cl, .pointer (some ⟨w.heap.size, 0, none⟩), undef, undef, undef, .pointer (some ⟨w.heap.size + 1, 0, none⟩), .int .i64 xs.length, .int .i64 xs.length, ntV x, .int .i64 k, .slice (some ⟨ga, oa, none⟩) xs.length xs.length, .int .i64 xs.length, .bool true, .int .i64 k, .int .i64 s, .int .i64 ((k : Int) + (s : Int)), .slice (some ⟨ga, oa, none⟩) xs.length xs.length, .int .i64 xs.length, .int .i64 xs.length, .int .i64 xs.length, .int .i64 s, .int .i64 ((xs.length : Int) + (s : Int)), .slice (some ⟨ga, oa, none⟩) xs.length xs.length, .int .i64 xs.length, .int .i64 xs.length, .slice (some ⟨ga, oa, none⟩) xs.length xs.length, .int .i64 k, .int .i64 xs.length, .slice (some ⟨ga, oa + k, none⟩) (xs.length - k) (xs.length - k), .slice (some ⟨ga, oa, none⟩) xs.length xs.length, .int .i64 xs.length, .int .i64 xs.length, .slice (some ⟨ga, oa, none⟩) 0 0, .func (.func cg) #[] cl, .func (.func 42) #[] #[.pointer (some ⟨W.heap.size, 0, none⟩), .pointer (some ⟨W.heap.size + 1, 0, none⟩), .pointer (some ⟨W.heap.size + 2, 0, none⟩)], ntV x, x39, x40, x41, x42, x43, x44], defers := [] }) ?hAx ?hassign ?hbody ?hdone ?hstop
            case hAx =>
              exact fun x a' u X Y row h _ _ => h
            case hassign =>
              rintro l pre x W' K hi hK
              gi_wp2
              have hs8 := hi.choose_spec.2.2.2.2.2.size
              exact hK _ _ (KeepsFrom.refl _ _) (BelX.refl _ _ _) hi rfl
            case hbody =>
              rintro l pre x a' W' hl hr ⟨zs', r1, r2, r3, r4, r5, r6⟩ rfl hlt
              have c4 := r4.cell
              have c5 := r5.cell
              have f4 := r4.frozen
              obtain ⟨m, hm⟩ : ∃ m, k + pre.length = m := ⟨_, rfl⟩
              rw [hm] at c4 r3 r4
              have hml : m < xs.length := by omega
              have q6 : (m : Int) < (xs.length : Int) := by omega
              have fz0 := r1.frozen m
              have cz0 := r1.cell (i := m) (by omega)
              have HR1 := hide r1
              have HR3 := hide r3
              have HR4 := hide r4
              have HR5 := hide r5
              have HR6 := hide r6
              have HMM := hide hm
              clear r1 r3 r4 r5 r6 hm
              have HOI := hide (oiN_step ⟨zs', HR1.out, r2, by rw [HMM.out]; exact HR3.out, by rw [HMM.out]; exact HR4.out, HR5.out, HR6.out⟩ HMM.out hml (by omega) (by omega) (by omega) (x))
              gi_wp2
              exact ⟨HOI.out.2.2, HOI.out.2.1, HOI.out.1⟩
            case hdone =>
              rintro D ys W' hD rfl ⟨zs', r1, r2, r3, r4, r5, r6⟩ hK
              have hkE : k + ys.length = xs.length := by omega
              rw [hkE] at r3 r4
              have HX := hide (marks_more HDS.out hnd (fun F hF => (r6.block F (by have := (Array.getElem?_eq_some_iff.1 (HDS.out F hF).2).1; omega) (by have := (HDS.out F hF).1; omega)).trans (HK.out.block F (Array.getElem?_eq_some_iff.1 (HDS.out F hF).2).1)) hK (by omega) (show w.heap.size + 2 ≤ D by omega))
              have HBB := hide (HB8.out.trans (r6.mono (m := w.heap.size) (by omega) (fun j hj h => h.resolve_right (by omega))))
              have HDD := hide (show (dn ++ ys) ++ runs f s (xs.drop xs.length) = runs f s xs by rw [List.append_assoc, ← HNX.out, HDN.out])
              have c1 := HT.out.cell
              have c2 := r4.cell
              have R1 := hide r1
              have R3 := hide r3
              have R4 := hide r4
              have R5 := hide r5
              have CC := hide (And.intro c1 c2)
              clear r1 r3 r4 r5 r6 hK c1 c2
              go_wp2
              refine ⟨⟨xs.length, D :: Ds, dn ++ ys, zs', _, _, _, _, _, _, _, _, _, _, _, _, _, _, _, _, _, _, _, _, _, _, _, _, _, _, _, _, _, _, _, _, _, _, _, _, rfl, by omega, by rw [List.length_append]; omega, HDD.out, R1.out, r2, R3.out, R5.out, R4.out, HBB.out, HX.out.1, HX.out.2⟩, ?_⟩
              rw [CC.out.1, CC.out.2]
              simp [intOf]
              omega
            case hstop =>
              rintro D c pre W' hD hpx h hK
              exact h.elim
          · skip
            have K : Below W.heap.size W W.drew := (Below.refl _ _).drew
            have HT := hide bT
            have CF := hide (fun U (k' : Below W.heap.size W U) => (k'.cell (p := ⟨w.heap.size + 1, 0, none⟩) HT.out.lt).trans HT.out.cell)
            go_wp2
            first | go_region_held3 (fun u => u.cell? ⟨w.heap.size + 1, 0, none⟩ = some (.int .i64 k))
              (first | with_reducible exact CF.out _ K | go_keep)
              (first | (go_at_call 41; (with_reducible refine ntmerged_box.mono ?_); rintro e w8 ⟨rfl, b1, b2, b3, hb⟩; have KX := K; replace K := K.trans (hb.mono K.size); clear hb)) | fail "region"
            have hsz : W.heap.size + 3 ≤ w8.heap.size := by have := b3.lt; simp at this; omega
            have hwW := HB.out.size
            have hbtW := HT.out.lt
            have hB8 : BelX (fun k => k = gi) w.heap.size w w8 := HB.out.trans (BelX.of K hwW)
            have hrow8 : NtRow w8 gi zs := HROW.out.keep (K.block _ HROW.out.lt)
            have bI8 : Boxed w8 w.heap.size 63 (.slice (some ⟨gi, 0, none⟩) xs.length ci) := (K.block _ BI.out.lt).trans BI.out
            have bT8 : Boxed w8 (w.heap.size + 1) 3 (.int .i64 k) := (K.block _ HT.out.lt).trans HT.out
            have RA : NtRd (fun g => g < w8.heap.size ∧ ¬ (g = gi ∨ g = w.heap.size + 1)) w8 (.slice (some ⟨ga, oa + k, none⟩) (xs.length - k) (ca - k)) ((xs.drop k).take s) := sub_rdN IA.out hB8 ga1 ga2 ⟨by omega, by omega⟩ (run_al xs HM.out) (by omega) (by omega) (run_a xs HM.out) (by omega) (by unfold maxLen; omega)
            have RB : NtRd (fun g => g < w8.heap.size ∧ ¬ (g = gi ∨ g = w.heap.size + 1)) w8 (.slice (some ⟨ga, oa + xs.length, none⟩) 0 (ca - xs.length)) (((xs.drop k).drop s).take s) := nil_rdN (by omega) (List.eq_nil_of_length_eq_zero (by rw [run_bl xs HM.out HE.out]; omega)) (by unfold maxLen; omega)
            have hI8 := hide (HI.out w w8 HIw.out hB8)
            have hIm := hide (fun (U U' : World) (h : I U) (kk : BelX (fun k => k = gi ∨ k = w.heap.size + 1) w8.heap.size U U') => HI.out U U' h (kk.mono (m := w.heap.size) (by omega) (fun j hj h => h.resolve_right (by omega))))
            have hseq := ntmerged_stops (n := 3) (X := (fun k => k = gi ∨ k = w.heap.size + 1)) (n₀ := w8.heap.size) (by omega) b1 b2 b3 ⟨by have := b1.lt; simpa using this, by simp; omega⟩ ⟨by have := b2.lt; simpa using this, by simp; omega⟩ ⟨by have := b3.lt; simpa using this, by simp; omega⟩ RA RB HCC.out hI8.out hIm.out (Nat.le_refl _) (by rw [run_al xs HM.out]; omega) (by rw [run_bl xs HM.out HE.out]; omega) (fun x hx => HXM.out x (List.mem_of_mem_drop (List.mem_of_mem_take hx))) (fun x hx => HXM.out x (List.mem_of_mem_drop (List.mem_of_mem_drop (List.mem_of_mem_take hx))))
            obtain ⟨Z, hZ⟩ : ∃ Z, mrg f ((xs.drop k).take s) (((xs.drop k).drop s).take s) = Z := ⟨_, rfl⟩
            have hZl : Z.length = xs.length - k := by rw [← hZ, mrg_len, run_al xs HM.out, run_bl xs HM.out HE.out]; omega
            have hN : ((xs.drop k).take s).length + (((xs.drop k).drop s).take s).length = xs.length - k := by rw [run_al xs HM.out, run_bl xs HM.out HE.out]; omega
            have hnx := run_next f hs hkl HM.out HE.out
            rw [hZ, hN] at hseq
            rw [hZ] at hnx
            have HSEQ := hide hseq
            have HNX := hide hnx
            have HK := hide K
            have HB8 := hide hB8
            clear hseq hnx K hB8 RA RB hZ hN b1 b2 b3 hI8 hIm CF KX
            have hgi8 : gi < w8.heap.size := by omega
            have hbt8 : w.heap.size + 1 < w8.heap.size := by omega
            have hbi8 : w.heap.size < w8.heap.size := by omega
            go_wp2_with fail
            refine (wpIn_wide (n := 4)).1 ?_
            refine' wpIn_rangeFunc_ownH rfl (by omega) (gf := 42) (lb := #[.pointer (some ⟨W.heap.size, 0, none⟩), .pointer (some ⟨W.heap.size + 1, 0, none⟩), .pointer (some ⟨W.heap.size + 2, 0, none⟩)]) (by simp [go_sem]) trivial (enters_of Try.func42 (by kernel_rfl) rfl)
              HSEQ.out BelX.trans (fun W l o o' hl _ _ _ => belx_putObj o' hl) (Below.refl _ _) (fun _ => rfl)
              (fun pre W' => OIN gi (w.heap.size + 1) w.heap.size ci xs.length k dn w8 pre W')
              (fun _ _ _ => False) (oiN_own (by omega) (by omega) (by omega)) (fun _ _ _ _ _ hs _ _ => hs) (oiN_start hrow8 hzl HZT.out bT8 bI8)
              (fun x a' _ => a' = { tmps := #[.slice (some ⟨gi, 0, none⟩) xs.length ci, .slice (some ⟨ga, oa, none⟩) xs.length ca, .int .i64 s, .func (.func cg) #[] cl, .pointer (some ⟨w.heap.size, 0, none⟩), undef, undef, undef, .pointer (some ⟨w.heap.size + 1, 0, none⟩), .int .i64 xs.length, .int .i64 xs.length, ntV x, .int .i64 k, .slice (some ⟨ga, oa, none⟩) xs.length ca, .int .i64 xs.length, .bool true, .int .i64 k, .int .i64 s, .int .i64 ((k : Int) + (s : Int)), .slice (some ⟨ga, oa, none⟩) xs.length ca, .int .i64 xs.length, .int .i64 xs.length, .int .i64 xs.length, .int .i64 s, .int .i64 ((xs.length : Int) + (s : Int)), .slice (some ⟨ga, oa, none⟩) xs.length ca, .int .i64 xs.length, .int .i64 xs.length, .slice (some ⟨ga, oa, none⟩) xs.length ca, .int .i64 k, .int .i64 xs.length, .slice (some ⟨ga, oa + k, none⟩) (xs.length - k) (ca - k), .slice (some ⟨ga, oa, none⟩) xs.length ca, .int .i64 xs.length, .int .i64 xs.length, .slice (some ⟨ga, oa + xs.length, none⟩) 0 (ca - xs.length), .func (.func cg) #[] cl, .func (.func 42) #[] #[.pointer (some ⟨W.heap.size, 0, none⟩), .pointer (some ⟨W.heap.size + 1, 0, none⟩), .pointer (some ⟨W.heap.size + 2, 0, none⟩)], ntV x, x39, x40, x41, x42, x43, x44], defers := [] }) ?hAx ?hassign ?hbody ?hdone ?hstop
            case hAx =>
              exact fun x a' u X Y row h _ _ => h
            case hassign =>
              rintro l pre x W' K hi hK
              gi_wp2
              have hs8 := hi.choose_spec.2.2.2.2.2.size
              exact hK _ _ (KeepsFrom.refl _ _) (BelX.refl _ _ _) hi rfl
            case hbody =>
              rintro l pre x a' W' hl hr ⟨zs', r1, r2, r3, r4, r5, r6⟩ rfl hlt
              have c4 := r4.cell
              have c5 := r5.cell
              have f4 := r4.frozen
              obtain ⟨m, hm⟩ : ∃ m, k + pre.length = m := ⟨_, rfl⟩
              rw [hm] at c4 r3 r4
              have hml : m < xs.length := by omega
              have q6 : (m : Int) < (xs.length : Int) := by omega
              have fz0 := r1.frozen m
              have cz0 := r1.cell (i := m) (by omega)
              have HR1 := hide r1
              have HR3 := hide r3
              have HR4 := hide r4
              have HR5 := hide r5
              have HR6 := hide r6
              have HMM := hide hm
              clear r1 r3 r4 r5 r6 hm
              have HOI := hide (oiN_step ⟨zs', HR1.out, r2, by rw [HMM.out]; exact HR3.out, by rw [HMM.out]; exact HR4.out, HR5.out, HR6.out⟩ HMM.out hml (by omega) (by omega) (by omega) (x))
              gi_wp2
              exact ⟨HOI.out.2.2, HOI.out.2.1, HOI.out.1⟩
            case hdone =>
              rintro D ys W' hD rfl ⟨zs', r1, r2, r3, r4, r5, r6⟩ hK
              have hkE : k + ys.length = xs.length := by omega
              rw [hkE] at r3 r4
              have HX := hide (marks_more HDS.out hnd (fun F hF => (r6.block F (by have := (Array.getElem?_eq_some_iff.1 (HDS.out F hF).2).1; omega) (by have := (HDS.out F hF).1; omega)).trans (HK.out.block F (Array.getElem?_eq_some_iff.1 (HDS.out F hF).2).1)) hK (by omega) (show w.heap.size + 2 ≤ D by omega))
              have HBB := hide (HB8.out.trans (r6.mono (m := w.heap.size) (by omega) (fun j hj h => h.resolve_right (by omega))))
              have HDD := hide (show (dn ++ ys) ++ runs f s (xs.drop xs.length) = runs f s xs by rw [List.append_assoc, ← HNX.out, HDN.out])
              have c1 := HT.out.cell
              have c2 := r4.cell
              have R1 := hide r1
              have R3 := hide r3
              have R4 := hide r4
              have R5 := hide r5
              have CC := hide (And.intro c1 c2)
              clear r1 r3 r4 r5 r6 hK c1 c2
              go_wp2
              refine ⟨⟨xs.length, D :: Ds, dn ++ ys, zs', _, _, _, _, _, _, _, _, _, _, _, _, _, _, _, _, _, _, _, _, _, _, _, _, _, _, _, _, _, _, _, _, _, _, _, _, rfl, by omega, by rw [List.length_append]; omega, HDD.out, R1.out, r2, R3.out, R5.out, R4.out, HBB.out, HX.out.1, HX.out.2⟩, ?_⟩
              rw [CC.out.1, CC.out.2]
              simp [intOf]
              omega
            case hstop =>
              rintro D c pre W' hD hpx h hK
              exact h.elim
    · obtain rfl : k = xs.length := by omega
      have hzz : zs = runs f s xs := by rw [← hdn, ← hzt, List.drop_length, runs_nil, List.append_nil, ← hzl, List.take_length]
      go_wp2
      refine marks_leave (A := w.heap.size + 2) (Inv := fun u => NtRow u gi zs ∧ BelX (fun k => k = gi) w.heap.size w u) ?_ ?_ Ds _ hDs hnd ⟨hrow, hB⟩
      · rintro u D ⟨i1, i2⟩ hD hu
        exact ⟨i1.keep (World.putObj_heap_other (fun e => by omega)), i2.trans (belx_putObj _ (by omega))⟩
      · rintro u ⟨i1, i2⟩
        exact ⟨_, results_none rfl _ _ _, rfl, by rw [← hzz]; exact i1, i2⟩

end Go.Proofs.Ytboikfcmbfaaeaa

namespace Go.Proofs.Ytboikfcmbfaaeaa
open Go.RowKit
set_option linter.unusedVariables false
section
variable {P : Program} {ops : Array Oper} {Q : Exit → Act → World → Prop} {md : Region.Mode} {C : World → Prop} {D : Nat → Bool}

/-- nothing is in D: an operation that may come up is taken first -/
theorem wpHl.tk0 {i : Nat} {oi : Oper} {d : Option Tmp} {v : Value} {fuel : Nat} {listed : Array Bool} {a : Act} {w : World} (hi : ops[i]? = some oi) (hs : Region.noSelect ops = true) (hfr : (Region.free md ops listed i && (Region.ready md ops listed).contains i) = true)
    (hd : oi.dst = d) (hQ : ∀ c a w, Q (.panic c) (a.put d v) w → Q (.panic c) a w) (hy : YieldsIf P ops C oi v a) (hC : C w)
    (h : wpHl P md ops Q C (fun _ => false) fuel (listed.setIfInBounds i true) (a.put d v) w) : wpHl P md ops Q C (fun _ => false) (fuel + 1) listed a w := by
  subst hd
  simp only [Bool.and_eq_true] at hfr
  have hr : i ∈ Region.ready md ops listed := by simpa using hfr.2
  refine wpHl.first (R := fun k => k != i) hi (Region.noSelect_spec hs) hQ (fun j oj hj hji hall => by simpa using hji) (fun j hj => rfl) rfl fuel listed a w (Region.free_spec hi hfr.1) (fun k hk => ?_) hr hy hC h
  have h1 := (mem_ready.1 hr).1
  simp only [bne_iff_ne, ne_eq]
  rintro rfl
  rcases Nat.lt_or_ge k listed.size with h' | h'
  · simp [Array.getD, h'] at h1 hk
    rw [h1] at hk
    cases hk
  · rw [Array.getD_eq_getD_getElem?, Array.getElem?_eq_none h'] at hk
    cases hk

theorem wpHl.region0 {id : Nat} {a : Act} {w : World} (hm : P.follows .mixedOrders = true) (hs : Region.noSelect ops = true) (h : Region.noSelect ops = true → wpHl P .any ops Q C (fun _ => false) ops.size (Array.replicate ops.size false) a w.drew) : (Code.region id ops true).wp P Q a w :=
  wpHl.region hm (h hs)

/-- a call, its arguments named -/
theorem wp_call_of {o : Oper} {a : Act} {w : World} {K : Act → World → Prop} {f : FuncId} {args : Array Value} (h : (execOp a.eval o).run P w = .ok (.enter f args) w)
    (hc : Calls P f args w fun
      | .returned v, w'' => K (a.put o.dst v) w''
      | .panicked chain, w'' => Q (.panic chain) a w''
      | .outgrown, _ => LetsOut Q) : Oper.wp P o a w K Q := by
  unfold Oper.wp
  rw [h]
  exact hc

end
end Go.Proofs.Ytboikfcmbfaaeaa
