/- NIt, NChk -/
import Derived.Test.YticmlelalbaalaaGreatDoorR10
import Derived.Test.YticmlelalbaalaaGreatDoorR02
import Derived.Shelf.Abstract
import Derived.Shelf.RegionOpen
import Derived.OwnWalkIn
import Derived.TacticsInMore
import Derived.LoopNIn
import Derived.LoopIn
namespace Go.Proofs.YticmlelalbaalaaGreatDoor
open Go.RowKit Go.Shelf
set_option linter.unusedVariables false
attribute [local go_sem] Oper.semAt_some

theorem yield_any {n m : Nat} {P : Program} {l : Nat} {args : Array Value} {W : World} {R : Ending → World → Prop} (h : YieldAt Fence.wide n P l args W R) : YieldAt Fence.wide m P l args W R := by
  obtain ⟨fn, tmps, assign, body, h1, h2, h3⟩ := h
  exact ⟨fn, tmps, assign, body, h1, h2, fun c cs _ => h3 c cs (fun d hd => by cases hd)⟩
theorem store_fn {P : Program} {w : World} {a : Addr} {f : Fn} {y : Array Value} {u : Value} (hc : w.cell? a = some u) (hf : w.frozen? a = false) : (store a (.func f #[] y)).run P w = .ok () (w.setCell a (.func f #[] y)) := by
  rw [run_store _ _ _ _ _ rfl, hc, hf]
  rfl
/-- eight cells of a block -/
def Bx8 (w : World) (b : Nat) (a0 a1 a2 a3 a4 a5 a6 a7 : Value) : Prop :=
  w.cell? ⟨b, 0, none⟩ = some a0 ∧ w.cell? ⟨b, 1, none⟩ = some a1 ∧ w.cell? ⟨b, 2, none⟩ = some a2 ∧ w.cell? ⟨b, 3, none⟩ = some a3 ∧ w.cell? ⟨b, 4, none⟩ = some a4 ∧ w.cell? ⟨b, 5, none⟩ = some a5 ∧ w.cell? ⟨b, 6, none⟩ = some a6 ∧ w.cell? ⟨b, 7, none⟩ = some a7
theorem bx8_new (w : World) (a0 a1 a2 a3 a4 a5 a6 a7 : Value) (t : Nat) : Bx8 (w.alloc (.cells #[a0, a1, a2, a3, a4, a5, a6, a7] t)) w.heap.size a0 a1 a2 a3 a4 a5 a6 a7 := by
  refine ⟨?_, ?_, ?_, ?_, ?_, ?_, ?_, ?_⟩ <;> (rw [World.cell?_alloc_at _ _ _ _ rfl]; rfl)
theorem Bx8.same {w w' : World} {b : Nat} {a0 a1 a2 a3 a4 a5 a6 a7 : Value} (h : Bx8 w b a0 a1 a2 a3 a4 a5 a6 a7) (hb : w'.heap[b]? = w.heap[b]?) : Bx8 w' b a0 a1 a2 a3 a4 a5 a6 a7 := by
  obtain ⟨h0, h1, h2, h3, h4, h5, h6, h7⟩ := h
  have e : ∀ o, w'.cell? ⟨b, o, none⟩ = w.cell? ⟨b, o, none⟩ := fun o => World.cell?_of_block (w := w) hb
  exact ⟨(e _).trans h0, (e _).trans h1, (e _).trans h2, (e _).trans h3, (e _).trans h4, (e _).trans h5, (e _).trans h6, (e _).trans h7⟩
theorem Bx8.below {w w' : World} {b : Nat} {a0 a1 a2 a3 a4 a5 a6 a7 : Value} (h : Bx8 w b a0 a1 a2 a3 a4 a5 a6 a7) (hb : Below w.heap.size w w') (hl : b < w.heap.size) : Bx8 w' b a0 a1 a2 a3 a4 a5 a6 a7 := h.same (hb.block b hl)
theorem Bx8.lt {w : World} {b : Nat} {a0 a1 a2 a3 a4 a5 a6 a7 : Value} (h : Bx8 w b a0 a1 a2 a3 a4 a5 a6 a7) : b < w.heap.size := by
  rcases Nat.lt_or_ge b w.heap.size with g | g
  · exact g
  · have := h.1
    simp [World.cell?, Array.getElem?_eq_none g] at this

set_option maxRecDepth 100000 in
set_option maxHeartbeats 1000000 in
theorem nodes_any {a0 a1 a2 a3 a4 a5 a6 a7 : Value} {w : World} : Calls Tryz.prog 32 #[.agg #[a0, a1, a2, a3, a4, a5, a6, a7]] w fun e w' => e = .returned (.func (.func 64) #[] #[.pointer (some ⟨w.heap.size, 0, none⟩)]) ∧ w' = w.alloc (.cells #[a0, a1, a2, a3, a4, a5, a6, a7] 31) := by
  go_enter Tryz.func32, Tryz.ntmps32
  go_wp2
  go_ret
  exact ⟨rfl, rfl⟩

set_option maxRecDepth 100000 in
set_option maxHeartbeats 4000000 in
/-- the walk of a value without Kids: one yield -/
theorem walk_leaf {n l b2 b3 b4 kc B : Nat} {ko : Option Addr} {a0 a1 a2 a3 a4 a5 a6 : Value} {W : World} (J1 Jx : World → Prop) (hJ1 : ∀ A C, J1 A → Below B A C → J1 C) (hB : B ≤ W.heap.size)
    (c2 : W.cell? ⟨b2, 0, none⟩ = some (.func (.yield l) #[] #[])) (c3 : W.cell? ⟨b3, 0, none⟩ = some (.slice none 0 0)) (l2 : b2 < W.heap.size) (l3 : b3 < W.heap.size)
    (hY : ∀ W1, Below W.heap.size W W1 → YieldAt Fence.wide n Tryz.prog l #[.slice none 0 0, .agg #[a0, a1, a2, a3, a4, a5, a6, .slice ko 0 kc]] W1 fun e W' =>
      (e = .returned (.bool true) ∧ J1 W' ∧ Stay B W1 W') ∨ (e = .returned (.bool false) ∧ Jx W')) :
    CallsIn Fence.wide n Tryz.prog 65 #[.agg #[a0, a1, a2, a3, a4, a5, a6, .slice ko 0 kc], .pointer (some ⟨b2, 0, none⟩), .pointer (some ⟨b3, 0, none⟩), .pointer (some ⟨b4, 0, none⟩)] W fun e W' =>
      (e = .returned (.bool true) ∧ J1 W') ∨ (e = .returned (.bool false) ∧ Jx W') := by
  have HY := hide hY
  clear hY
  refine callsIn_of_wp Tryz.func65 rfl trivial ?_ rfl
  simp only [Tryz.ntmps65, List.size_toArray, List.length_cons, List.length_nil, Nat.reduceAdd, Nat.reduceSub, Array.replicate_succ, Array.replicate_zero, List.push_toArray, List.append_toArray, List.nil_append, List.cons_append]
  have K : Below W.heap.size W (W.alloc (.cells #[a0, a1, a2, a3, a4, a5, a6, .slice ko 0 kc] 31)) := (Below.refl _ W).alloc (Nat.le_refl _) _
  have BX := bx8_new W a0 a1 a2 a3 a4 a5 a6 (.slice ko 0 kc) 31
  have d2 := (K.cell (p := ⟨b2, 0, none⟩) l2).trans c2
  have d3 := (K.cell (p := ⟨b3, 0, none⟩) l3).trans c3
  have ls : W.heap.size < (W.alloc (.cells #[a0, a1, a2, a3, a4, a5, a6, .slice ko 0 kc] 31)).heap.size := by simp
  obtain ⟨fn, tmps, assign, body, hy, hR⟩ := yield_any (m := n - 1) (HY.out _ K)
  have HB8 := hide BX
  have HK := hide K
  obtain ⟨z0, z1, z2, z3, z4, z5, z6, z7⟩ := BX
  clear K
  gi_wp2
  refine ⟨fun h => (by cases h), hR.mono ?_⟩
  rintro e W3 (⟨rfl, hJ3, hS⟩ | ⟨rfl, hx⟩)
  · have BX3 := HB8.out.same (hS.same W.heap.size hB ls)
    obtain ⟨y0, y1, y2, y3, y4, y5, y6, y7⟩ := BX3
    have HJ := hide hJ3
    clear hS z0 z1 z2 z3 z4 z5 z6 z7 hJ3 hy hR
    gi_wp2
    gi_loopw [16] (fun i wr => i = .int .i64 0 ∧ J1 wr) (fun _ _ => 0)
    case atStart => exact ⟨rfl, HJ.out⟩
    case round =>
      obtain ⟨rfl, hJ⟩ := hrel
      gi_wp2
      go_ret
      exact .inl ⟨rfl, hJ⟩
  · gi_wp2
    go_ret
    exact .inr ⟨rfl, hx⟩

/-- what the iterator over a value without Kids hands out: the empty path and the value -/
abbrev leafEnc (a0 a1 a2 a3 a4 a5 a6 k : Value) (_ : Unit) : Array Value := #[.slice none 0 0, .agg #[a0, a1, a2, a3, a4, a5, a6, k]]

set_option maxRecDepth 100000 in
set_option maxHeartbeats 4000000 in
theorem nodes_leaf {n Bn kc : Nat} {ko : Option Addr} {a0 a1 a2 a3 a4 a5 a6 : Value} {w : World} (hb : Bx8 w Bn a0 a1 a2 a3 a4 a5 a6 (.slice ko 0 kc)) :
    SeqC Fence.wide n Tryz.prog 64 #[.pointer (some ⟨Bn, 0, none⟩)] (leafEnc a0 a1 a2 a3 a4 a5 a6 (.slice ko 0 kc)) (fun pre _ _ => pre = []) (fun xs => xs = [()]) (fun xs => xs = [()]) w := by
  intro l J Jx W hW hJ hJx hY h0
  have HW := hide (hb.below hW hb.lt)
  have HY := hide hY
  have HJ := hide hJ
  have h0' := hide h0
  have hlt : Bn < W.heap.size := Nat.lt_of_lt_of_le hb.lt hW.size
  clear hb hW hY hJ hJx h0
  refine callsIn_of_wp Tryz.func64 rfl trivial ?_ rfl
  simp only [Tryz.ntmps64, List.size_toArray, List.length_cons, List.length_nil, Nat.reduceAdd, Nat.reduceSub, Array.replicate_succ, Array.replicate_zero, List.push_toArray, List.append_toArray, List.nil_append, List.cons_append]
  have bY := Boxed.new W 93 (.func (.yield l) #[] #[])
  have bP := Boxed.new (W.alloc (.cells #[.func (.yield l) #[] #[]] 93)) 61 (.slice none 0 0)
  have bF := Boxed.new ((W.alloc (.cells #[.func (.yield l) #[] #[]] 93)).alloc (.cells #[.slice none 0 0] 61)) 33 .nilFunc
  rw [World.size_alloc] at bP
  rw [World.size_alloc, World.size_alloc] at bF
  have hcF := bF.cell
  have hfF := bF.frozen
  have K : Below W.heap.size W (((W.alloc (.cells #[.func (.yield l) #[] #[]] 93)).alloc (.cells #[.slice none 0 0] 61)).alloc (.cells #[.nilFunc] 33)) := (((Below.refl _ W).alloc (Nat.le_refl _) _).alloc (by simp) _).alloc (by simp; omega) _
  have hsF := bF.set (.func (.func 65) #[] #[.pointer (some ⟨W.heap.size, 0, none⟩), .pointer (some ⟨W.heap.size + 1, 0, none⟩), .pointer (some ⟨W.heap.size + 1 + 1, 0, none⟩)])
  have hst := store_fn (P := Tryz.prog) (f := .func 65) (y := #[.pointer (some ⟨W.heap.size, 0, none⟩), .pointer (some ⟨W.heap.size + 1, 0, none⟩), .pointer (some ⟨W.heap.size + 1 + 1, 0, none⟩)]) hcF hfF
  have HBY := hide (((bY.alloc (.cells #[.slice none 0 0] 61)).alloc (.cells #[.nilFunc] 33)).kept (grownBy_setCell' _ (W.heap.size + 1 + 1) (.func (.func 65) #[] #[.pointer (some ⟨W.heap.size, 0, none⟩), .pointer (some ⟨W.heap.size + 1, 0, none⟩), .pointer (some ⟨W.heap.size + 1 + 1, 0, none⟩)])) (by simp; omega))
  have HBP := hide ((bP.alloc (.cells #[.nilFunc] 33)).kept (grownBy_setCell' _ (W.heap.size + 1 + 1) (.func (.func 65) #[] #[.pointer (some ⟨W.heap.size, 0, none⟩), .pointer (some ⟨W.heap.size + 1, 0, none⟩), .pointer (some ⟨W.heap.size + 1 + 1, 0, none⟩)])) (by simp))
  replace K := K.setCell (p := ⟨W.heap.size + 1 + 1, 0, none⟩) (show W.heap.size ≤ W.heap.size + 1 + 1 by omega) (.func (.func 65) #[] #[.pointer (some ⟨W.heap.size, 0, none⟩), .pointer (some ⟨W.heap.size + 1, 0, none⟩), .pointer (some ⟨W.heap.size + 1 + 1, 0, none⟩)])
  clear bY bP bF hcF hfF
  generalize hU : (((W.alloc (.cells #[.func (.yield l) #[] #[]] 93)).alloc (.cells #[.slice none 0 0] 61)).alloc (.cells #[.nilFunc] 33)).setCell ⟨W.heap.size + 1 + 1, 0, none⟩ (.func (.func 65) #[] #[.pointer (some ⟨W.heap.size, 0, none⟩), .pointer (some ⟨W.heap.size + 1, 0, none⟩), .pointer (some ⟨W.heap.size + 1 + 1, 0, none⟩)]) = U at *
  clear hU
  obtain ⟨z0, z1, z2, z3, z4, z5, z6, z7⟩ := HW.out.below K hlt
  have hc := hsF.cell
  have l2 := HBY.out.lt
  have l3 := HBP.out.lt
  have HK := hide K
  clear K hsF
  gi_wp2_with fail
  refine ⟨trivial, fun h => (by cases h), (walk_leaf (B := W.heap.size) (fun A => J [()] A) (fun A => Jx [()] A) (fun A C h k => HJ.out _ _ _ h k) HK.out.size HBY.out.cell HBP.out.cell l2 l3 (fun W1 hb => yield_any (HY.out [] () W1 (HJ.out _ _ _ h0'.out (HK.out.trans (hb.mono HK.out.size))) rfl))).mono ?_⟩
  rintro e W3 (⟨rfl, h⟩ | ⟨rfl, h⟩)
  · gi_wp2
    go_end0
    exact ⟨⟨_, rfl⟩, .inl ⟨_, rfl, h⟩⟩
  · gi_wp2
    go_end0
    exact ⟨⟨_, rfl⟩, .inr ⟨_, rfl, h⟩⟩

end Go.Proofs.YticmlelalbaalaaGreatDoor

namespace Go.Proofs.YticmlelalbaalaaGreatDoor
open Go.RowKit Go.Shelf
set_option linter.unusedVariables false
attribute [local go_sem] Oper.semAt_some

theorem results_cellN {fn : Func} {p : Tmp} {ty : TypeId} (h : fn.results = #[.cell p ty]) (tmps : Array Value) (P : Program) (w : World) :
    (results fn tmps).run P w = ((asAddr (tmps.getD p undef)).run P w).andThen fun a w₁ => (loadVar ty a).run P w₁ := by
  simp only [results, h]
  simp [Sem.run_bind, Result.andThen]

set_option maxHeartbeats 4000000 in
theorem iscont_num {w : World} {k : Int} {a1 a2 a3 a4 a5 a6 a7 : Value} (h7 : k ≠ 7) (h8 : k ≠ 8) (h9 : k ≠ 9) : Calls Tryz.prog 35 #[.agg #[.int .i8 k, a1, a2, a3, a4, a5, a6, a7]] w fun e w' => e = .returned (.bool false) ∧ Below w.heap.size w w' := by
  have e7 : (k == 7) = false := by simp [h7]
  have e8 : (k == 8) = false := by simp [h8]
  have e9 : (k == 9) = false := by simp [h9]
  go_enter Tryz.func35, Tryz.ntmps35
  go_wp2
  go_ret
  exact ⟨rfl, (Below.refl _ _).alloc (Nat.le_refl _) _⟩

set_option maxRecDepth 100000 in
set_option maxHeartbeats 8000000 in
theorem check_leaf {kc ml mc : Nat} {k n1 b e : Int} {g : Bool} {s : ByteArray} {ko mo : Option Addr} {w : World} (h7 : k ≠ 7) (h8 : k ≠ 8) (h9 : k ≠ 9)
    (hm : ∀ W, Below w.heap.size w W → Calls Tryz.prog 33 #[.agg #[.int .i8 k, .int .u64 n1, .bool g, .slice mo ml mc, .int .u64 b, .int .i8 e, .string s, .slice ko 0 kc]] W fun e' W' => e' = .returned (.bool true) ∧ Below W.heap.size W W') :
    Calls Tryz.prog 12 #[.agg #[.int .i8 k, .int .u64 n1, .bool g, .slice mo ml mc, .int .u64 b, .int .i8 e, .string s, .slice ko 0 kc]] w fun e' w' => e' = .returned .nilIface ∧ Below w.heap.size w w' := by
  have HM := hide hm
  clear hm
  refine (callsIn_wide (n := 5)).1 ?_
  refine callsIn_of_wp_marks Tryz.func12 rfl trivial ?_ rfl
  simp only [Tryz.ntmps12, List.size_toArray, List.length_cons, List.length_nil, Nat.reduceAdd, Nat.reduceSub, Array.replicate_succ, Array.replicate_zero, List.push_toArray, List.append_toArray, List.nil_append, List.cons_append]
  gi_wp2_with fail
  refine ⟨trivial, (callsIn_wide.2 nodes_any).mono ?_⟩
  rintro e' w' ⟨rfl, rfl⟩
  have K0 : Below w.heap.size w ((w.alloc (.cells #[.int .i8 k, .int .u64 n1, .bool g, .slice mo ml mc, .int .u64 b, .int .i8 e, .string s, .slice ko 0 kc] 31)).alloc (.cells #[.nilIface] 36)) := ((Below.refl _ w).alloc (Nat.le_refl _) _).alloc (by simp) _
  have K : Below w.heap.size w ((((w.alloc (.cells #[.int .i8 k, .int .u64 n1, .bool g, .slice mo ml mc, .int .u64 b, .int .i8 e, .string s, .slice ko 0 kc] 31)).alloc (.cells #[.nilIface] 36)).alloc (.cells #[.nilIface] 36)).alloc (.cells #[.int .i8 k, .int .u64 n1, .bool g, .slice mo ml mc, .int .u64 b, .int .i8 e, .string s, .slice ko 0 kc] 31)) := (K0.alloc (by simp; omega) _).alloc (by simp; omega) _
  have bR := ((Boxed.new (w.alloc (.cells #[.int .i8 k, .int .u64 n1, .bool g, .slice mo ml mc, .int .u64 b, .int .i8 e, .string s, .slice ko 0 kc] 31)) 36 .nilIface).alloc (.cells #[.nilIface] 36)).alloc (.cells #[.int .i8 k, .int .u64 n1, .bool g, .slice mo ml mc, .int .u64 b, .int .i8 e, .string s, .slice ko 0 kc] 31)
  have bD := (Boxed.new ((w.alloc (.cells #[.int .i8 k, .int .u64 n1, .bool g, .slice mo ml mc, .int .u64 b, .int .i8 e, .string s, .slice ko 0 kc] 31)).alloc (.cells #[.nilIface] 36)) 36 .nilIface).alloc (.cells #[.int .i8 k, .int .u64 n1, .bool g, .slice mo ml mc, .int .u64 b, .int .i8 e, .string s, .slice ko 0 kc] 31)
  have bV := bx8_new (((w.alloc (.cells #[.int .i8 k, .int .u64 n1, .bool g, .slice mo ml mc, .int .u64 b, .int .i8 e, .string s, .slice ko 0 kc] 31)).alloc (.cells #[.nilIface] 36)).alloc (.cells #[.nilIface] 36)) (.int .i8 k) (.int .u64 n1) (.bool g) (.slice mo ml mc) (.int .u64 b) (.int .i8 e) (.string s) (.slice ko 0 kc) 31
  simp only [World.size_alloc] at bR bD bV
  have hsz : ((((w.alloc (.cells #[.int .i8 k, .int .u64 n1, .bool g, .slice mo ml mc, .int .u64 b, .int .i8 e, .string s, .slice ko 0 kc] 31)).alloc (.cells #[.nilIface] 36)).alloc (.cells #[.nilIface] 36)).alloc (.cells #[.int .i8 k, .int .u64 n1, .bool g, .slice mo ml mc, .int .u64 b, .int .i8 e, .string s, .slice ko 0 kc] 31)).heap.size = w.heap.size + 4 := by simp
  have HR := hide bR
  have HD := hide bD
  have HV := hide bV
  have HK := hide K
  have HS := hide hsz
  clear bR bD bV K K0 hsz
  gi_wp2_with fail
  generalize (((w.alloc (.cells #[.int .i8 k, .int .u64 n1, .bool g, .slice mo ml mc, .int .u64 b, .int .i8 e, .string s, .slice ko 0 kc] 31)).alloc (.cells #[.nilIface] 36)).alloc (.cells #[.nilIface] 36)).alloc (.cells #[.int .i8 k, .int .u64 n1, .bool g, .slice mo ml mc, .int .u64 b, .int .i8 e, .string s, .slice ko 0 kc] 31) = w4 at *
  refine wpIn_rangeC rfl (by omega) (gf := 64) (lb := #[.pointer (some ⟨w.heap.size + 1 + 1 + 1, 0, none⟩)]) (by simp [go_sem]) trivial (enters_of Tryz.func64 (by kernel_rfl) rfl)
    (nodes_leaf HV.out) (fun _ _ _ _ _ _ h _ => h) (fun _ _ _ _ h _ => h) (Below.refl _ _) (fun _ => rfl)
    (fun _ W => Boxed W (w.heap.size + 1) 36 .nilIface ∧ Boxed W (w.heap.size + 1 + 1) 36 .nilIface ∧ Below w.heap.size w W)
    (fun _ _ _ => False)
    (fun _ A C h b => ⟨(b.block _ (by rw [HS.out]; omega)).trans h.1, (b.block _ (by rw [HS.out]; omega)).trans h.2.1, h.2.2.trans (b.mono (by rw [HS.out]; omega))⟩)
    (fun _ _ _ _ h _ => h)
    ⟨HR.out, HD.out, HK.out⟩
    (fun _ a W => ∃ p, a = { tmps := #[.agg #[.int .i8 k, .int .u64 n1, .bool g, .slice mo ml mc, .int .u64 b, .int .i8 e, .string s, .slice ko 0 kc], .pointer (some ⟨w.heap.size, 0, none⟩), .pointer (some ⟨w.heap.size + 1, 0, none⟩), .pointer (some ⟨w.heap.size + 1 + 1, 0, none⟩), .slice none 0 0, .pointer (some ⟨p, 0, none⟩), .agg #[.int .i8 k, .int .u64 n1, .bool g, .slice mo ml mc, .int .u64 b, .int .i8 e, .string s, .slice ko 0 kc], .func (.func 64) #[] #[.pointer (some ⟨w.heap.size + 1 + 1 + 1, 0, none⟩)], .slice none 0 0, .agg #[.int .i8 k, .int .u64 n1, .bool g, .slice mo ml mc, .int .u64 b, .int .i8 e, .string s, .slice ko 0 kc], undef, undef, undef, undef, undef, undef, undef, undef, undef, undef, undef, undef, undef, undef, undef, undef, undef, undef, undef, undef, undef, undef, undef, undef, undef, undef, undef], defers := [] } ∧ Bx8 W p (.int .i8 k) (.int .u64 n1) (.bool g) (.slice mo ml mc) (.int .u64 b) (.int .i8 e) (.string s) (.slice ko 0 kc))
    ?hat ?assign ?body ?done ?stop
  case hat =>
    rintro x a' A l r r' ⟨p, rfl, hp⟩ hl
    refine ⟨p, rfl, hp.same (World.putObj_heap_other ?_)⟩
    rintro rfl
    have := hp.1
    simp [World.cell?, hl] at this
  case assign =>
    intro l x W K hK
    gi_wp2
    refine hK _ _ ((Below.refl _ W).alloc (Nat.le_refl _) _) ⟨W.heap.size, rfl, bx8_new _ _ _ _ _ _ _ _ _ _⟩
  case body =>
    rintro l pre x a' W ⟨hR, hD, hB⟩ hr ⟨p, rfl, hp⟩ hle
    obtain ⟨z0, z1, z2, z3, z4, z5, z6, z7⟩ := hp
    have hpl := hide (show Bx8 W p (.int .i8 k) (.int .u64 n1) (.bool g) (.slice mo ml mc) (.int .u64 b) (.int .i8 e) (.string s) (.slice ko 0 kc) from ⟨z0, z1, z2, z3, z4, z5, z6, z7⟩)
    gi_wp2_with fail
    refine ⟨trivial, (CallsIn.inRound l (callsIn_wide.2 (HM.out W hB))).mono ?_⟩
    rintro e' W2 ⟨rfl, hb2⟩
    have hc := (show Boxed W2 (w.heap.size + 1 + 1) 36 .nilIface from (hb2.block _ hD.lt).trans hD).cell
    obtain ⟨y0, y1, y2, y3, y4, y5, y6, y7⟩ := hpl.out.below hb2 hpl.out.lt
    have HB2 := hide hb2
    clear hb2 z0 z1 z2 z3 z4 z5 z6 z7
    gi_wp2_with fail
    refine ⟨trivial, (CallsIn.inRound l (callsIn_wide.2 (iscont_num h7 h8 h9))).mono ?_⟩
    rintro e' W3 ⟨rfl, hb3⟩
    have b23 : Below W.heap.size W W3 := HB2.out.trans (hb3.mono HB2.out.size)
    gi_wp2
    exact ⟨.of_below b23, (b23.block _ hR.lt).trans hR, (b23.block _ hD.lt).trans hD, hB.trans (b23.mono hB.size)⟩
  case done =>
    rintro D ys W hD hys ⟨hR, hD2, hB⟩ hK
    have hc := hR.cell
    have hf := hR.frozen
    have hd := hD2.cell
    gi_wp2
    have hne : D ≠ w.heap.size + 1 := by have := HS.out; omega
    have hK2 : (W.setCell ⟨w.heap.size + 1, 0, none⟩ .nilIface).heap[D]? = some (.deferred (some [])) := (Below.heap_setCell _ _ _ _ hne).trans hK
    refine ⟨by simp, .inl ⟨_, _, rfl, run_takeDeferred hK2, ?_⟩⟩
    have hR2 : Boxed ((W.setCell ⟨w.heap.size + 1, 0, none⟩ .nilIface).putObj D (.deferred none)) (w.heap.size + 1) 36 .nilIface := (World.putObj_heap_other (Ne.symm hne)).trans (hR.set _)
    have hB2 : Below w.heap.size w ((W.setCell ⟨w.heap.size + 1, 0, none⟩ .nilIface).putObj D (.deferred none)) := (hB.setCell (p := ⟨w.heap.size + 1, 0, none⟩) (show w.heap.size ≤ w.heap.size + 1 by omega) _).trans (put_below _ _ (by have := HS.out; omega))
    have c2 := hR2.cell
    have f2 := hR2.frozen
    generalize (W.setCell ⟨w.heap.size + 1, 0, none⟩ .nilIface).putObj D (.deferred none) = W9 at *
    exact ⟨.nilIface, by rw [results_cellN rfl]; go_simp, rfl, hB2⟩
  case stop =>
    rintro D c pre W _ _ h _
    exact h.elim

end Go.Proofs.YticmlelalbaalaaGreatDoor
