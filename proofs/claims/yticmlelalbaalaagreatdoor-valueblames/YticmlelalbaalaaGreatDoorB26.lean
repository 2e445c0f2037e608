import Derived.Test.YticmlelalbaalaaGreatDoorB21
import Derived.Test.YticmlelalbaalaaGreatDoorB23
import Derived.Test.YticmlelalbaalaaGreatDoorB25
namespace Go.Proofs.YticmlelalbaalaaGreatDoor
open Go.RowKit Go.Shelf
set_option linter.unusedVariables false
set_option linter.unusedSimpArgs false
def clS : Value → Option Addr × Nat × Nat
  | .slice a n c => (a, n, c)
  | _ => (none, 0, 0)
def clQ (q : Va × Value × Value) : Cl := ⟨q.1.kind, q.1.n, q.1.neg, (clS q.2.1).1, (clS q.2.1).2.1, (clS q.2.1).2.2, q.1.bits, q.1.ext, strOfNums q.1.text, (clS q.2.2).1, (clS q.2.2).2.1, (clS q.2.2).2.2⟩
theorem clQ_L {w : World} {q : Va × Value × Value} (h : GoodV w q) : (clQ q).L = vaL q.1 q.2.1 q.2.2 := by
  obtain ⟨x, m, v⟩ := q
  obtain ⟨h1, h2, h3⟩ := h
  obtain ⟨a, c, e, _⟩ := h1
  obtain ⟨a2, c2, e2, _⟩ := h3.len
  simp only at e e2
  subst e e2
  rfl
theorem clQ_V {w : World} {q : Va × Value × Value} (h : GoodV w q) : (clQ q).V = vaV q.1 q.2.1 q.2.2 := by
  unfold Cl.V
  rw [clQ_L h]
  rfl
theorem GoodV.rd {w : World} {q : Va × Value × Value} (h : GoodV w q) : VaRd w (clQ q).V q.1 := by
  rw [clQ_V h]
  exact ⟨⟨_, _, rfl, h.1, h.2.2⟩, h.2.1⟩
def paL (x : Cl × Cl) : List Value := x.1.L ++ x.2.L
def paV (x : Cl × Cl) : Value := .agg (paL x).toArray
theorem va8Info : (Tryz.prog.info? 31).map (·.size) = some 8 := by kernel_rfl
theorem vaDesc : ∃ d, Tryz.prog.underlying 31 = some d ∧ d.isRow = true := ⟨_, Tryz.underlying31, rfl⟩
set_option maxRecDepth 100000 in
theorem paInfo : (Tryz.prog.info? 110).map (·.size) = some 16 := by kernel_rfl
theorem paDesc : ∃ d, Tryz.prog.underlying 110 = some d ∧ d.isRow = true := ⟨_, Tryz.underlying110, rfl⟩
theorem wpList_ldV {ops : Array Oper} {rest : List Oper} {o : Oper} {a : Act} {w : World} {Q : Exit → Act → World → Prop} (hgd : o.guard = none) (y : Operand) (ho : o.op = .load 31 y)
    (b f : Nat) (hy : a.eval y = .pointer (some ⟨b, f, none⟩)) (x : Cl) (hx : w.rangeAt b f x.L) (h : wpList Tryz.prog ops Q rest (a.put o.dst x.V) w) : wpList Tryz.prog ops Q (o :: rest) a w := by
  obtain ⟨d, h1, h2⟩ := vaDesc
  exact wpList_load_mid hgd _ y ho b f hy x.L d hx h1 h2 va8Info h
set_option maxRecDepth 100000 in
theorem wpList_ldP {ops : Array Oper} {rest : List Oper} {o : Oper} {a : Act} {w : World} {Q : Exit → Act → World → Prop} (hgd : o.guard = none) (y : Operand) (ho : o.op = .load 110 y)
    (b f : Nat) (hy : a.eval y = .pointer (some ⟨b, f, none⟩)) (x : Cl × Cl) (hx : w.rangeAt b f (paL x)) (h : wpList Tryz.prog ops Q rest (a.put o.dst (paV x)) w) : wpList Tryz.prog ops Q (o :: rest) a w := by
  obtain ⟨d, h1, h2⟩ := paDesc
  exact wpList_load_mid hgd _ y ho b f hy (paL x) d hx h1 h2 paInfo h
set_option maxRecDepth 100000 in
theorem wpList_ldE {ops : Array Oper} {rest : List Oper} {o : Oper} {a : Act} {w : World} {Q : Exit → Act → World → Prop} (hgd : o.guard = none) (y : Operand) (ho : o.op = .load 112 y)
    (b f : Nat) (hy : a.eval y = .pointer (some ⟨b, f, none⟩)) (x : En) (hx : w.rangeAt b f (enL x)) (h : wpList Tryz.prog ops Q rest (a.put o.dst (enV x)) w) : wpList Tryz.prog ops Q (o :: rest) a w := by
  obtain ⟨d, h1, h2⟩ := enDesc
  exact wpList_load_mid hgd _ y ho b f hy (enL x) d hx h1 h2 enInfo h
set_option maxRecDepth 100000 in
theorem wpList_stE {ops : Array Oper} {rest : List Oper} {o : Oper} {a : Act} {w : World} {Q : Exit → Act → World → Prop} (hgd : o.guard = none) (y z : Operand) (ho : o.op = .store 112 y z)
    (b f : Nat) (hy : a.eval y = .pointer (some ⟨b, f, none⟩)) (x : En) (hz : a.eval z = enV x) (hx : w.there b f 17) (h : wpList Tryz.prog ops Q rest (a.put o.dst undef) (w.setCells b f (enL x))) : wpList Tryz.prog ops Q (o :: rest) a w :=
  wpList_store_mid hgd _ y z ho b f (enL x).toArray hy hz hx (by rw [enInfo]; rfl) (all_oneCell_toArray (enL_one x)) h
theorem range_left {w : World} {b o : Nat} {xs ys : List Value} (h : w.rangeAt b o (xs ++ ys)) : w.rangeAt b o xs := fun j v hv => h j v (by rw [List.getElem?_append_left (List.getElem?_eq_some_iff.1 hv).1]; exact hv)
theorem range_right {w : World} {b o n : Nat} {xs ys : List Value} (h : w.rangeAt b o (xs ++ ys)) (hn : xs.length = n) : w.rangeAt b (o + n) ys := fun j v hv => by
  have := h (n + j) v (by rw [List.getElem?_append_right (by omega), hn]; simpa using hv)
  rwa [Nat.add_assoc]
theorem Below.range {B : Nat} {w w' : World} {b o : Nat} {cs : List Value} (h : w.rangeAt b o cs) (hb : Below B w w') (hl : b < B) : w'.rangeAt b o cs := range_blk h (hb.block b hl)
theorem range_new (w : World) (t : TypeId) (cs : List Value) : (w.alloc (.cells cs.toArray t)).rangeAt w.heap.size 0 cs := fun j v hv => by
  rw [Nat.zero_add, cell_of_row _ _ j _ _ _ (heap_alloc_new w _)]
  simpa using hv
set_option maxHeartbeats 4000000 in
set_option maxRecDepth 100000 in
theorem pacmp_any {w : World} {x1 x2 y1 y2 : Cl} {a b : Va} (L : Lays w) (h1 : VaRd w x1.V a) (h2 : VaRd w y1.V b) (p1 : vpts a ≤ 1048576) (p2 : vpts b ≤ 1048576) :
    Calls Tryz.prog 82 #[paV (x1, x2), paV (y1, y2)] w fun e w' => e = .returned (.int .i64 (vcmp a b)) ∧ Below w.heap.size w w' := by
  obtain ⟨W1, hW1⟩ : ∃ W1, (w.alloc (.cells (paL (x1, x2)).toArray 110)).alloc (.cells (paL (y1, y2)).toArray 110) = W1 := ⟨_, rfl⟩
  have hs1 : W1.heap.size = w.heap.size + 2 := by rw [← hW1]; simp
  have KX := hide (show Below w.heap.size w W1 by rw [← hW1]; exact ((Below.refl _ _).alloc (Nat.le_refl _) _).alloc (by simp) _)
  have HX := hide (show W1.rangeAt w.heap.size 0 x1.L from range_left (ys := x2.L) (by rw [← hW1]; exact range_blk (range_new w _ _) (Below.heap_alloc _ _ _ (by simp))))
  have HY := hide (show W1.rangeAt (w.heap.size + 1) 0 y1.L from range_left (ys := y2.L) (by
    rw [← hW1]
    have e : w.heap.size + 1 = (w.alloc (.cells (paL (x1, x2)).toArray 110)).heap.size := by simp
    rw [e]
    exact range_new _ _ _))
  have HC := hide ((vcompare_any p1) W1 x1.V y1.V b (L.below KX.out) (h1.far KX.out) (h2.far KX.out) p2)
  clear h1 h2 L
  go_enter Tryz.func82, Tryz.ntmps82
  unfold paV
  go_upto_region 1 with fail
  try rw [hW1]
  clear hW1
  go_wp2_with (first | (refine wpList_ldV rfl _ rfl w.heap.size 0 rfl x1 HX.out ?_; try simp only [Act.put, List.setIfInBounds_toArray, List.set_cons_zero, List.set_cons_succ]) | (refine wpList_ldV rfl _ rfl (w.heap.size + 1) 0 rfl y1 HY.out ?_; try simp only [Act.put, List.setIfInBounds_toArray, List.set_cons_zero, List.set_cons_succ]) | (go_at_call 19; (with_reducible refine HC.out.mono ?_); rintro e w8 ⟨rfl, hb⟩))
  exact bodyPost_ret (v := .int .i64 (vcmp a b)) (by simp [results, Tryz.results82, go_sem]) rfl ⟨rfl, KX.out.trans (hb.mono KX.out.size)⟩
set_option maxHeartbeats 4000000 in
set_option maxRecDepth 100000 in
theorem bykey_any {w : World} {x y : En} {a b : Va} (L : Lays w) (h1 : VaRd w x.1.V a) (h2 : VaRd w y.1.V b) (p1 : vpts a ≤ 1048576) (p2 : vpts b ≤ 1048576) :
    Calls Tryz.prog 75 #[enV x, enV y] w fun e w' => e = .returned (.int .i64 (vcmp a b)) ∧ Below w.heap.size w w' := by
  obtain ⟨x1, x2, xn⟩ := x
  obtain ⟨y1, y2, yn⟩ := y
  obtain ⟨W1, hW1⟩ : ∃ W1, (w.alloc (.cells (enL (x1, x2, xn)).toArray 112)).alloc (.cells (enL (y1, y2, yn)).toArray 112) = W1 := ⟨_, rfl⟩
  have KX := hide (show Below w.heap.size w W1 by rw [← hW1]; exact ((Below.refl _ _).alloc (Nat.le_refl _) _).alloc (by simp) _)
  have HX := hide (show W1.rangeAt w.heap.size 0 (paL (x1, x2)) from range_left (ys := [.int .i64 xn]) (by rw [← hW1]; exact range_blk (range_new w _ _) (Below.heap_alloc _ _ _ (by simp))))
  have HY := hide (show W1.rangeAt (w.heap.size + 1) 0 (paL (y1, y2)) from range_left (ys := [.int .i64 yn]) (by
    rw [← hW1]
    have e : w.heap.size + 1 = (w.alloc (.cells (enL (x1, x2, xn)).toArray 112)).heap.size := by simp
    rw [e]
    exact range_new _ _ _))
  have HC := hide (pacmp_any (x2 := x2) (y2 := y2) (L.below KX.out) (h1.far KX.out) (h2.far KX.out) p1 p2)
  clear h1 h2 L
  go_enter Tryz.func75, Tryz.ntmps75
  unfold enV
  go_upto_region 1 with fail
  try rw [hW1]
  clear hW1
  go_wp2_with (first | (refine wpList_ldP rfl _ rfl w.heap.size 0 rfl (x1, x2) HX.out ?_; try simp only [Act.put, List.setIfInBounds_toArray, List.set_cons_zero, List.set_cons_succ]) | (refine wpList_ldP rfl _ rfl (w.heap.size + 1) 0 rfl (y1, y2) HY.out ?_; try simp only [Act.put, List.setIfInBounds_toArray, List.set_cons_zero, List.set_cons_succ]) | (go_at_call 82; (with_reducible refine HC.out.mono ?_); rintro e w8 ⟨rfl, hb⟩))
  exact bodyPost_ret (v := .int .i64 (vcmp a b)) (by simp [results, Tryz.results75, go_sem]) rfl ⟨rfl, KX.out.trans (hb.mono KX.out.size)⟩
end Go.Proofs.YticmlelalbaalaaGreatDoor
