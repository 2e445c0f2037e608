/- NIt, NChk, NSeqS -/
import Derived.Test.YtjigofmcflmelaaGreatDoorC10
import Derived.Test.YtjigofmcflmelaaGreatDoorC02
import Derived.Shelf.Abstract
import Derived.Shelf.RegionOpen
import Derived.OwnWalkIn
import Derived.TacticsInMore
import Derived.LoopNIn
import Derived.LoopIn
namespace Go.Proofs.YtjigofmcflmelaaGreatDoor
open Go.RowKit Go.Shelf
set_option linter.unusedVariables false
attribute [local go_sem] Oper.semAt_some

theorem yield_any {n m : Nat} {P : Program} {l : Nat} {args : Array Value} {W : World} {R : Ending → World → Prop} (h : YieldAt Fence.wide n P l args W R) : YieldAt Fence.wide m P l args W R := by
  obtain ⟨fn, tmps, assign, body, h1, h2, h3⟩ := h
  exact ⟨fn, tmps, assign, body, h1, h2, fun c cs _ => h3 c cs (fun d hd => by cases hd)⟩
theorem store_fn {P : Program} {w : World} {a : Addr} {f : Fn} {y : Array Value} {u : Value} (hc : w.cell? a = some u) (hf : w.frozen? a = false) : (store a (.func f #[] y)).run P w = .ok () (w.setCell a (.func f #[] y)) := by
  rw [run_store _ _ _ _ _ rfl, hc, hf]
  rfl
/-- eight cells of a block -/
def Bx8 (w : World) (b : Nat) (a0 a1 a2 a3 a4 a5 a6 a7 : Value) : Prop :=
  w.cell? ⟨b, 0, none⟩ = some a0 ∧ w.cell? ⟨b, 1, none⟩ = some a1 ∧ w.cell? ⟨b, 2, none⟩ = some a2 ∧ w.cell? ⟨b, 3, none⟩ = some a3 ∧ w.cell? ⟨b, 4, none⟩ = some a4 ∧ w.cell? ⟨b, 5, none⟩ = some a5 ∧ w.cell? ⟨b, 6, none⟩ = some a6 ∧ w.cell? ⟨b, 7, none⟩ = some a7
theorem bx8_new (w : World) (a0 a1 a2 a3 a4 a5 a6 a7 : Value) (t : Nat) : Bx8 (w.alloc (.cells #[a0, a1, a2, a3, a4, a5, a6, a7] t)) w.heap.size a0 a1 a2 a3 a4 a5 a6 a7 := by
  refine ⟨?_, ?_, ?_, ?_, ?_, ?_, ?_, ?_⟩ <;> (rw [World.cell?_alloc_at _ _ _ _ rfl]; rfl)
theorem Bx8.same {w w' : World} {b : Nat} {a0 a1 a2 a3 a4 a5 a6 a7 : Value} (h : Bx8 w b a0 a1 a2 a3 a4 a5 a6 a7) (hb : w'.heap[b]? = w.heap[b]?) : Bx8 w' b a0 a1 a2 a3 a4 a5 a6 a7 := by
  obtain ⟨h0, h1, h2, h3, h4, h5, h6, h7⟩ := h
  have e : ∀ o, w'.cell? ⟨b, o, none⟩ = w.cell? ⟨b, o, none⟩ := fun o => World.cell?_of_block (w := w) hb
  exact ⟨(e _).trans h0, (e _).trans h1, (e _).trans h2, (e _).trans h3, (e _).trans h4, (e _).trans h5, (e _).trans h6, (e _).trans h7⟩
theorem Bx8.below {w w' : World} {b : Nat} {a0 a1 a2 a3 a4 a5 a6 a7 : Value} (h : Bx8 w b a0 a1 a2 a3 a4 a5 a6 a7) (hb : Below w.heap.size w w') (hl : b < w.heap.size) : Bx8 w' b a0 a1 a2 a3 a4 a5 a6 a7 := h.same (hb.block b hl)
theorem Bx8.lt {w : World} {b : Nat} {a0 a1 a2 a3 a4 a5 a6 a7 : Value} (h : Bx8 w b a0 a1 a2 a3 a4 a5 a6 a7) : b < w.heap.size := by
  rcases Nat.lt_or_ge b w.heap.size with g | g
  · exact g
  · have := h.1
    simp [World.cell?, Array.getElem?_eq_none g] at this

set_option maxRecDepth 100000 in
set_option maxHeartbeats 1000000 in
theorem nodes_any {a0 a1 a2 a3 a4 a5 a6 a7 : Value} {w : World} : Calls Tryz.prog 172 #[.agg #[a0, a1, a2, a3, a4, a5, a6, a7]] w fun e w' => e = .returned (.func (.func 201) #[] #[.pointer (some ⟨w.heap.size, 0, none⟩)]) ∧ w' = w.alloc (.cells #[a0, a1, a2, a3, a4, a5, a6, a7] 31) := by
  go_enter Tryz.func172, Tryz.ntmps172
  go_wp2
  go_ret
  exact ⟨rfl, rfl⟩

set_option maxRecDepth 100000 in
set_option maxHeartbeats 4000000 in
/-- the walk of a value without Kids: one yield -/
theorem walk_leaf {n l b2 b3 b4 kc B : Nat} {ko : Option Addr} {a0 a1 a2 a3 a4 a5 a6 : Value} {W : World} (J1 Jx : World → Prop) (hJ1 : ∀ A C, J1 A → Below B A C → J1 C) (hB : B ≤ W.heap.size)
    (c2 : W.cell? ⟨b2, 0, none⟩ = some (.func (.yield l) #[] #[])) (c3 : W.cell? ⟨b3, 0, none⟩ = some (.slice none 0 0)) (l2 : b2 < W.heap.size) (l3 : b3 < W.heap.size)
    (hY : ∀ W1, Below W.heap.size W W1 → YieldAt Fence.wide n Tryz.prog l #[.slice none 0 0, .agg #[a0, a1, a2, a3, a4, a5, a6, .slice ko 0 kc]] W1 fun e W' =>
      (e = .returned (.bool true) ∧ J1 W' ∧ Stay B W1 W') ∨ (e = .returned (.bool false) ∧ Jx W')) :
    CallsIn Fence.wide n Tryz.prog 202 #[.agg #[a0, a1, a2, a3, a4, a5, a6, .slice ko 0 kc], .pointer (some ⟨b2, 0, none⟩), .pointer (some ⟨b3, 0, none⟩), .pointer (some ⟨b4, 0, none⟩)] W fun e W' =>
      (e = .returned (.bool true) ∧ J1 W') ∨ (e = .returned (.bool false) ∧ Jx W') := by
  have HY := hide hY
  clear hY
  refine callsIn_of_wp Tryz.func202 rfl trivial ?_ rfl
  simp only [Tryz.ntmps202, List.size_toArray, List.length_cons, List.length_nil, Nat.reduceAdd, Nat.reduceSub, Array.replicate_succ, Array.replicate_zero, List.push_toArray, List.append_toArray, List.nil_append, List.cons_append]
  have K : Below W.heap.size W (W.alloc (.cells #[a0, a1, a2, a3, a4, a5, a6, .slice ko 0 kc] 31)) := (Below.refl _ W).alloc (Nat.le_refl _) _
  have BX := bx8_new W a0 a1 a2 a3 a4 a5 a6 (.slice ko 0 kc) 31
  have d2 := (K.cell (p := ⟨b2, 0, none⟩) l2).trans c2
  have d3 := (K.cell (p := ⟨b3, 0, none⟩) l3).trans c3
  have ls : W.heap.size < (W.alloc (.cells #[a0, a1, a2, a3, a4, a5, a6, .slice ko 0 kc] 31)).heap.size := by simp
  obtain ⟨fn, tmps, assign, body, hy, hR⟩ := yield_any (m := n - 1) (HY.out _ K)
  have HB8 := hide BX
  have HK := hide K
  obtain ⟨z0, z1, z2, z3, z4, z5, z6, z7⟩ := BX
  clear K
  gi_wp2
  refine ⟨fun h => (by cases h), hR.mono ?_⟩
  rintro e W3 (⟨rfl, hJ3, hS⟩ | ⟨rfl, hx⟩)
  · have BX3 := HB8.out.same (hS.same W.heap.size hB ls)
    obtain ⟨y0, y1, y2, y3, y4, y5, y6, y7⟩ := BX3
    have HJ := hide hJ3
    clear hS z0 z1 z2 z3 z4 z5 z6 z7 hJ3 hy hR
    gi_wp2
    gi_loopw [16] (fun i wr => i = .int .i64 0 ∧ J1 wr) (fun _ _ => 0)
    case atStart => exact ⟨rfl, HJ.out⟩
    case round =>
      obtain ⟨rfl, hJ⟩ := hrel
      gi_wp2
      go_ret
      exact .inl ⟨rfl, hJ⟩
  · gi_wp2
    go_ret
    exact .inr ⟨rfl, hx⟩

/-- what the iterator over a value without Kids hands out: the empty path and the value -/
abbrev leafEnc (a0 a1 a2 a3 a4 a5 a6 k : Value) (_ : Unit) : Array Value := #[.slice none 0 0, .agg #[a0, a1, a2, a3, a4, a5, a6, k]]

set_option maxRecDepth 100000 in
set_option maxHeartbeats 4000000 in
theorem nodes_leaf {n Bn kc : Nat} {ko : Option Addr} {a0 a1 a2 a3 a4 a5 a6 : Value} {w : World} (hb : Bx8 w Bn a0 a1 a2 a3 a4 a5 a6 (.slice ko 0 kc)) :
    SeqC Fence.wide n Tryz.prog 201 #[.pointer (some ⟨Bn, 0, none⟩)] (leafEnc a0 a1 a2 a3 a4 a5 a6 (.slice ko 0 kc)) (fun pre _ _ => pre = []) (fun xs => xs = [()]) (fun xs => xs = [()]) w := by
  intro l J Jx W hW hJ hJx hY h0
  have HW := hide (hb.below hW hb.lt)
  have HY := hide hY
  have HJ := hide hJ
  have h0' := hide h0
  have hlt : Bn < W.heap.size := Nat.lt_of_lt_of_le hb.lt hW.size
  clear hb hW hY hJ hJx h0
  refine callsIn_of_wp Tryz.func201 rfl trivial ?_ rfl
  simp only [Tryz.ntmps201, List.size_toArray, List.length_cons, List.length_nil, Nat.reduceAdd, Nat.reduceSub, Array.replicate_succ, Array.replicate_zero, List.push_toArray, List.append_toArray, List.nil_append, List.cons_append]
  have bY := Boxed.new W 256 (.func (.yield l) #[] #[])
  have bP := Boxed.new (W.alloc (.cells #[.func (.yield l) #[] #[]] 256)) 191 (.slice none 0 0)
  have bF := Boxed.new ((W.alloc (.cells #[.func (.yield l) #[] #[]] 256)).alloc (.cells #[.slice none 0 0] 191)) 40 .nilFunc
  rw [World.size_alloc] at bP
  rw [World.size_alloc, World.size_alloc] at bF
  have hcF := bF.cell
  have hfF := bF.frozen
  have K : Below W.heap.size W (((W.alloc (.cells #[.func (.yield l) #[] #[]] 256)).alloc (.cells #[.slice none 0 0] 191)).alloc (.cells #[.nilFunc] 40)) := (((Below.refl _ W).alloc (Nat.le_refl _) _).alloc (by simp) _).alloc (by simp; omega) _
  have hsF := bF.set (.func (.func 202) #[] #[.pointer (some ⟨W.heap.size, 0, none⟩), .pointer (some ⟨W.heap.size + 1, 0, none⟩), .pointer (some ⟨W.heap.size + 1 + 1, 0, none⟩)])
  have hst := store_fn (P := Tryz.prog) (f := .func 202) (y := #[.pointer (some ⟨W.heap.size, 0, none⟩), .pointer (some ⟨W.heap.size + 1, 0, none⟩), .pointer (some ⟨W.heap.size + 1 + 1, 0, none⟩)]) hcF hfF
  have HBY := hide (((bY.alloc (.cells #[.slice none 0 0] 191)).alloc (.cells #[.nilFunc] 40)).kept (grownBy_setCell' _ (W.heap.size + 1 + 1) (.func (.func 202) #[] #[.pointer (some ⟨W.heap.size, 0, none⟩), .pointer (some ⟨W.heap.size + 1, 0, none⟩), .pointer (some ⟨W.heap.size + 1 + 1, 0, none⟩)])) (by simp; omega))
  have HBP := hide ((bP.alloc (.cells #[.nilFunc] 40)).kept (grownBy_setCell' _ (W.heap.size + 1 + 1) (.func (.func 202) #[] #[.pointer (some ⟨W.heap.size, 0, none⟩), .pointer (some ⟨W.heap.size + 1, 0, none⟩), .pointer (some ⟨W.heap.size + 1 + 1, 0, none⟩)])) (by simp))
  replace K := K.setCell (p := ⟨W.heap.size + 1 + 1, 0, none⟩) (show W.heap.size ≤ W.heap.size + 1 + 1 by omega) (.func (.func 202) #[] #[.pointer (some ⟨W.heap.size, 0, none⟩), .pointer (some ⟨W.heap.size + 1, 0, none⟩), .pointer (some ⟨W.heap.size + 1 + 1, 0, none⟩)])
  clear bY bP bF hcF hfF
  generalize hU : (((W.alloc (.cells #[.func (.yield l) #[] #[]] 256)).alloc (.cells #[.slice none 0 0] 191)).alloc (.cells #[.nilFunc] 40)).setCell ⟨W.heap.size + 1 + 1, 0, none⟩ (.func (.func 202) #[] #[.pointer (some ⟨W.heap.size, 0, none⟩), .pointer (some ⟨W.heap.size + 1, 0, none⟩), .pointer (some ⟨W.heap.size + 1 + 1, 0, none⟩)]) = U at *
  clear hU
  obtain ⟨z0, z1, z2, z3, z4, z5, z6, z7⟩ := HW.out.below K hlt
  have hc := hsF.cell
  have l2 := HBY.out.lt
  have l3 := HBP.out.lt
  have HK := hide K
  clear K hsF
  gi_wp2_with fail
  refine ⟨trivial, fun h => (by cases h), (walk_leaf (B := W.heap.size) (fun A => J [()] A) (fun A => Jx [()] A) (fun A C h k => HJ.out _ _ _ h k) HK.out.size HBY.out.cell HBP.out.cell l2 l3 (fun W1 hb => yield_any (HY.out [] () W1 (HJ.out _ _ _ h0'.out (HK.out.trans (hb.mono HK.out.size))) rfl))).mono ?_⟩
  rintro e W3 (⟨rfl, h⟩ | ⟨rfl, h⟩)
  · gi_wp2
    go_end0
    exact ⟨⟨_, rfl⟩, .inl ⟨_, rfl, h⟩⟩
  · gi_wp2
    go_end0
    exact ⟨⟨_, rfl⟩, .inr ⟨_, rfl, h⟩⟩

end Go.Proofs.YtjigofmcflmelaaGreatDoor

namespace Go.Proofs.YtjigofmcflmelaaGreatDoor
open Go.RowKit Go.Shelf
set_option linter.unusedVariables false
attribute [local go_sem] Oper.semAt_some

theorem results_cellN {fn : Func} {p : Tmp} {ty : TypeId} (h : fn.results = #[.cell p ty]) (tmps : Array Value) (P : Program) (w : World) :
    (results fn tmps).run P w = ((asAddr (tmps.getD p undef)).run P w).andThen fun a w₁ => (loadVar ty a).run P w₁ := by
  simp only [results, h]
  simp [Sem.run_bind, Result.andThen]

set_option maxHeartbeats 4000000 in
theorem iscont_num {w : World} {k : Int} {a1 a2 a3 a4 a5 a6 a7 : Value} (h7 : k ≠ 7) (h8 : k ≠ 8) (h9 : k ≠ 9) : Calls Tryz.prog 175 #[.agg #[.int .i8 k, a1, a2, a3, a4, a5, a6, a7]] w fun e w' => e = .returned (.bool false) ∧ Below w.heap.size w w' := by
  have e7 : (k == 7) = false := by simp [h7]
  have e8 : (k == 8) = false := by simp [h8]
  have e9 : (k == 9) = false := by simp [h9]
  go_enter Tryz.func175, Tryz.ntmps175
  go_wp2
  go_ret
  exact ⟨rfl, (Below.refl _ _).alloc (Nat.le_refl _) _⟩

set_option maxRecDepth 100000 in
set_option maxHeartbeats 8000000 in
theorem check_leaf {kc ml mc : Nat} {k n1 b e : Int} {g : Bool} {s : ByteArray} {ko mo : Option Addr} {w : World} (h7 : k ≠ 7) (h8 : k ≠ 8) (h9 : k ≠ 9)
    (hm : ∀ W, Below w.heap.size w W → Calls Tryz.prog 173 #[.agg #[.int .i8 k, .int .u64 n1, .bool g, .slice mo ml mc, .int .u64 b, .int .i8 e, .string s, .slice ko 0 kc]] W fun e' W' => e' = .returned (.bool true) ∧ Below W.heap.size W W') :
    Calls Tryz.prog 100 #[.agg #[.int .i8 k, .int .u64 n1, .bool g, .slice mo ml mc, .int .u64 b, .int .i8 e, .string s, .slice ko 0 kc]] w fun e' w' => e' = .returned .nilIface ∧ Below w.heap.size w w' := by
  have HM := hide hm
  clear hm
  refine (callsIn_wide (n := 5)).1 ?_
  refine callsIn_of_wp_marks Tryz.func100 rfl trivial ?_ rfl
  simp only [Tryz.ntmps100, List.size_toArray, List.length_cons, List.length_nil, Nat.reduceAdd, Nat.reduceSub, Array.replicate_succ, Array.replicate_zero, List.push_toArray, List.append_toArray, List.nil_append, List.cons_append]
  gi_wp2_with fail
  refine ⟨trivial, (callsIn_wide.2 nodes_any).mono ?_⟩
  rintro e' w' ⟨rfl, rfl⟩
  have K0 : Below w.heap.size w ((w.alloc (.cells #[.int .i8 k, .int .u64 n1, .bool g, .slice mo ml mc, .int .u64 b, .int .i8 e, .string s, .slice ko 0 kc] 31)).alloc (.cells #[.nilIface] 104)) := ((Below.refl _ w).alloc (Nat.le_refl _) _).alloc (by simp) _
  have K : Below w.heap.size w ((((w.alloc (.cells #[.int .i8 k, .int .u64 n1, .bool g, .slice mo ml mc, .int .u64 b, .int .i8 e, .string s, .slice ko 0 kc] 31)).alloc (.cells #[.nilIface] 104)).alloc (.cells #[.nilIface] 104)).alloc (.cells #[.int .i8 k, .int .u64 n1, .bool g, .slice mo ml mc, .int .u64 b, .int .i8 e, .string s, .slice ko 0 kc] 31)) := (K0.alloc (by simp; omega) _).alloc (by simp; omega) _
  have bR := ((Boxed.new (w.alloc (.cells #[.int .i8 k, .int .u64 n1, .bool g, .slice mo ml mc, .int .u64 b, .int .i8 e, .string s, .slice ko 0 kc] 31)) 104 .nilIface).alloc (.cells #[.nilIface] 104)).alloc (.cells #[.int .i8 k, .int .u64 n1, .bool g, .slice mo ml mc, .int .u64 b, .int .i8 e, .string s, .slice ko 0 kc] 31)
  have bD := (Boxed.new ((w.alloc (.cells #[.int .i8 k, .int .u64 n1, .bool g, .slice mo ml mc, .int .u64 b, .int .i8 e, .string s, .slice ko 0 kc] 31)).alloc (.cells #[.nilIface] 104)) 104 .nilIface).alloc (.cells #[.int .i8 k, .int .u64 n1, .bool g, .slice mo ml mc, .int .u64 b, .int .i8 e, .string s, .slice ko 0 kc] 31)
  have bV := bx8_new (((w.alloc (.cells #[.int .i8 k, .int .u64 n1, .bool g, .slice mo ml mc, .int .u64 b, .int .i8 e, .string s, .slice ko 0 kc] 31)).alloc (.cells #[.nilIface] 104)).alloc (.cells #[.nilIface] 104)) (.int .i8 k) (.int .u64 n1) (.bool g) (.slice mo ml mc) (.int .u64 b) (.int .i8 e) (.string s) (.slice ko 0 kc) 31
  simp only [World.size_alloc] at bR bD bV
  have hsz : ((((w.alloc (.cells #[.int .i8 k, .int .u64 n1, .bool g, .slice mo ml mc, .int .u64 b, .int .i8 e, .string s, .slice ko 0 kc] 31)).alloc (.cells #[.nilIface] 104)).alloc (.cells #[.nilIface] 104)).alloc (.cells #[.int .i8 k, .int .u64 n1, .bool g, .slice mo ml mc, .int .u64 b, .int .i8 e, .string s, .slice ko 0 kc] 31)).heap.size = w.heap.size + 4 := by simp
  have HR := hide bR
  have HD := hide bD
  have HV := hide bV
  have HK := hide K
  have HS := hide hsz
  clear bR bD bV K K0 hsz
  gi_wp2_with fail
  generalize (((w.alloc (.cells #[.int .i8 k, .int .u64 n1, .bool g, .slice mo ml mc, .int .u64 b, .int .i8 e, .string s, .slice ko 0 kc] 31)).alloc (.cells #[.nilIface] 104)).alloc (.cells #[.nilIface] 104)).alloc (.cells #[.int .i8 k, .int .u64 n1, .bool g, .slice mo ml mc, .int .u64 b, .int .i8 e, .string s, .slice ko 0 kc] 31) = w4 at *
  refine wpIn_rangeC rfl (by omega) (gf := 201) (lb := #[.pointer (some ⟨w.heap.size + 1 + 1 + 1, 0, none⟩)]) (by simp [go_sem]) trivial (enters_of Tryz.func201 (by kernel_rfl) rfl)
    (nodes_leaf HV.out) (fun _ _ _ _ _ _ h _ => h) (fun _ _ _ _ h _ => h) (Below.refl _ _) (fun _ => rfl)
    (fun _ W => Boxed W (w.heap.size + 1) 104 .nilIface ∧ Boxed W (w.heap.size + 1 + 1) 104 .nilIface ∧ Below w.heap.size w W)
    (fun _ _ _ => False)
    (fun _ A C h b => ⟨(b.block _ (by rw [HS.out]; omega)).trans h.1, (b.block _ (by rw [HS.out]; omega)).trans h.2.1, h.2.2.trans (b.mono (by rw [HS.out]; omega))⟩)
    (fun _ _ _ _ h _ => h)
    ⟨HR.out, HD.out, HK.out⟩
    (fun _ a W => ∃ p, a = { tmps := #[.agg #[.int .i8 k, .int .u64 n1, .bool g, .slice mo ml mc, .int .u64 b, .int .i8 e, .string s, .slice ko 0 kc], .pointer (some ⟨w.heap.size, 0, none⟩), .pointer (some ⟨w.heap.size + 1, 0, none⟩), .pointer (some ⟨w.heap.size + 1 + 1, 0, none⟩), .slice none 0 0, .pointer (some ⟨p, 0, none⟩), .agg #[.int .i8 k, .int .u64 n1, .bool g, .slice mo ml mc, .int .u64 b, .int .i8 e, .string s, .slice ko 0 kc], .func (.func 201) #[] #[.pointer (some ⟨w.heap.size + 1 + 1 + 1, 0, none⟩)], .slice none 0 0, .agg #[.int .i8 k, .int .u64 n1, .bool g, .slice mo ml mc, .int .u64 b, .int .i8 e, .string s, .slice ko 0 kc], undef, undef, undef, undef, undef, undef, undef, undef, undef, undef, undef, undef, undef, undef, undef, undef, undef, undef, undef, undef, undef, undef, undef, undef, undef, undef, undef], defers := [] } ∧ Bx8 W p (.int .i8 k) (.int .u64 n1) (.bool g) (.slice mo ml mc) (.int .u64 b) (.int .i8 e) (.string s) (.slice ko 0 kc))
    ?hat ?assign ?body ?done ?stop
  case hat =>
    rintro x a' A l r r' ⟨p, rfl, hp⟩ hl
    refine ⟨p, rfl, hp.same (World.putObj_heap_other ?_)⟩
    rintro rfl
    have := hp.1
    simp [World.cell?, hl] at this
  case assign =>
    intro l x W K hK
    gi_wp2
    refine hK _ _ ((Below.refl _ W).alloc (Nat.le_refl _) _) ⟨W.heap.size, rfl, bx8_new _ _ _ _ _ _ _ _ _ _⟩
  case body =>
    rintro l pre x a' W ⟨hR, hD, hB⟩ hr ⟨p, rfl, hp⟩ hle
    obtain ⟨z0, z1, z2, z3, z4, z5, z6, z7⟩ := hp
    have hpl := hide (show Bx8 W p (.int .i8 k) (.int .u64 n1) (.bool g) (.slice mo ml mc) (.int .u64 b) (.int .i8 e) (.string s) (.slice ko 0 kc) from ⟨z0, z1, z2, z3, z4, z5, z6, z7⟩)
    gi_wp2_with fail
    refine ⟨trivial, (CallsIn.inRound l (callsIn_wide.2 (HM.out W hB))).mono ?_⟩
    rintro e' W2 ⟨rfl, hb2⟩
    have hc := (show Boxed W2 (w.heap.size + 1 + 1) 104 .nilIface from (hb2.block _ hD.lt).trans hD).cell
    obtain ⟨y0, y1, y2, y3, y4, y5, y6, y7⟩ := hpl.out.below hb2 hpl.out.lt
    have HB2 := hide hb2
    clear hb2 z0 z1 z2 z3 z4 z5 z6 z7
    gi_wp2_with fail
    refine ⟨trivial, (CallsIn.inRound l (callsIn_wide.2 (iscont_num h7 h8 h9))).mono ?_⟩
    rintro e' W3 ⟨rfl, hb3⟩
    have b23 : Below W.heap.size W W3 := HB2.out.trans (hb3.mono HB2.out.size)
    gi_wp2
    exact ⟨.of_below b23, (b23.block _ hR.lt).trans hR, (b23.block _ hD.lt).trans hD, hB.trans (b23.mono hB.size)⟩
  case done =>
    rintro D ys W hD hys ⟨hR, hD2, hB⟩ hK
    have hc := hR.cell
    have hf := hR.frozen
    have hd := hD2.cell
    gi_wp2
    have hne : D ≠ w.heap.size + 1 := by have := HS.out; omega
    have hK2 : (W.setCell ⟨w.heap.size + 1, 0, none⟩ .nilIface).heap[D]? = some (.deferred (some [])) := (Below.heap_setCell _ _ _ _ hne).trans hK
    refine ⟨by simp, .inl ⟨_, _, rfl, run_takeDeferred hK2, ?_⟩⟩
    have hR2 : Boxed ((W.setCell ⟨w.heap.size + 1, 0, none⟩ .nilIface).putObj D (.deferred none)) (w.heap.size + 1) 104 .nilIface := (World.putObj_heap_other (Ne.symm hne)).trans (hR.set _)
    have hB2 : Below w.heap.size w ((W.setCell ⟨w.heap.size + 1, 0, none⟩ .nilIface).putObj D (.deferred none)) := (hB.setCell (p := ⟨w.heap.size + 1, 0, none⟩) (show w.heap.size ≤ w.heap.size + 1 by omega) _).trans (put_below _ _ (by have := HS.out; omega))
    have c2 := hR2.cell
    have f2 := hR2.frozen
    generalize (W.setCell ⟨w.heap.size + 1, 0, none⟩ .nilIface).putObj D (.deferred none) = W9 at *
    exact ⟨.nilIface, by rw [results_cellN rfl]; go_simp, rfl, hB2⟩
  case stop =>
    rintro D c pre W _ _ h _
    exact h.elim

end Go.Proofs.YtjigofmcflmelaaGreatDoor

namespace Go.Proofs.YtjigofmcflmelaaGreatDoor
open Go.RowKit Go.Shelf
set_option linter.unusedVariables false
attribute [local go_sem] Oper.semAt_some

variable {F : Fence} {n : Nat} {P : Program}

/-- an iterator: what it hands to yield (what is known of it: Rd), what it keeps for itself lies from where it began on -/
def SeqS {α : Type} (F : Fence) (n : Nat) (P : Program) (g : Nat) (lb : Array Value) (encs : α → Array Value) (Rd : List α → α → World → Prop) (S Sp No : List α → Prop) (w : World) : Prop :=
  ∀ (l : Nat) (J Jx : List α → World → Prop) (W : World), Below w.heap.size w W → Deepr W.heap.size J → Deepr W.heap.size Jx →
    (∀ pre x W1, J pre W1 → Rd pre x W1 → YieldAt F (n - 1) P l (encs x) W1 fun e W' =>
      (e = .returned (.bool true) ∧ J (pre ++ [x]) W' ∧ Stay W.heap.size W1 W') ∨ (e = .returned (.bool false) ∧ Jx (pre ++ [x]) W')) →
    (∀ pre W', No pre → ¬ J pre W') → J [] W →
    CallsIn F n P g (#[.func (.yield l) #[] #[]] ++ lb) W fun e W' => (∃ v, e = .returned v) ∧ ((∃ xs, S xs ∧ J xs W') ∨ (∃ pre, Sp pre ∧ Jx pre W'))

theorem wpIn_rangeS {α : Type} {g : Operand} {ps : Array Tmp} {assign body : Code} {Q : Exit → Act → World → Prop} {a : Act} {w : World}
    (hro : F.round = none) (h1 : 1 ≤ n) {gf : Nat} {lb : Array Value} (hg : a.eval g = .func (.func gf) #[] lb) (hFg : F.fn gf) (eg : ∀ args w, (callFunc gf args).run P w = .ok (.enter gf args) w)
    {encs : α → Array Value} {Rd : List α → α → World → Prop} {S Sp No : List α → Prop} {w0 : World} (hseq : SeqS F (n - 1) P gf lb encs Rd S Sp No w0)
    (hRd : ∀ pre x (A : World) (l : Nat) (r r' : Loop), Rd pre x A → A.heap[l]? = some (.loop r) → Rd pre x (A.putObj l (.loop r'))) (hRb : ∀ pre x (A C : World), Rd pre x A → Below A.heap.size A C → Rd pre x C) (hb0 : Below w0.heap.size w0 w) (hps : ∀ x, (encs x).size = ps.size)
    (I : List α → World → Prop) (Ix : Code → List α → World → Prop) (hI : Deepr w.heap.size I) (hIx : ∀ c, Deepr w.heap.size (Ix c)) (hNo : ∀ pre W, No pre → ¬ I pre W) (h0 : I [] w) (At : α → Act → World → Prop) (hAt : ∀ x a' (A : World) (l : Nat) (r r' : Loop), At x a' A → A.heap[l]? = some (.loop r) → At x a' (A.putObj l (.loop r')))
    (hassign : ∀ (l : Nat) (x : α) (W : World) (K : Act → World → Prop), (∀ a₁ W₁, Below W.heap.size W W₁ → At x a₁ W₁ → K a₁ W₁) →
      assign.wpIn (F.inRound l) (n - 1 - 1) P (Exit.then K (fun _ _ _ => False)) { tmps := (ps.zip (encs x)).foldl (fun t (p, v) => t.setIfInBounds p v) a.tmps, defers := [] } W)
    (hbody : ∀ (l : Nat) (pre : List α) (x : α) (a₁ : Act) (W : World), I pre W → Rd pre x W → At x a₁ W → w.heap.size ≤ W.heap.size → body.wpIn (F.inRound l) (n - 1 - 1) P (postC w.heap.size I Ix (pre ++ [x]) W) a₁ W)
    (hdone : ∀ (D : Nat) (xs : List α) (W : World), w.heap.size ≤ D → S xs → I xs W → W.heap[D]? = some (.deferred (some [])) → Q .normal { a with defers := { target := .collected D, args := #[] } :: a.defers } W)
    (hstop : ∀ (D : Nat) (c : Code) (pre : List α) (W : World), w.heap.size ≤ D → Sp pre → Ix c pre W → W.heap[D]? = some (.deferred (some [])) → c.wpIn F n P Q { a with defers := { target := .collected D, args := #[] } :: a.defers } W) :
    (Code.rangeFunc g ps assign body).wpIn F n P Q a w := by
  refine wpIn_rangeFunc fun fn hfn => ?_
  rw [hro]
  have go : ∃ W1 : World, ∃ r0 : Loop, (Instr.enterLoop fn a.tmps ps assign body none).run P w = .ok (w.heap.size + 1, [{ target := .collected w.heap.size, args := #[] }]) W1 ∧ Below w.heap.size w W1 ∧ W1.heap.size = w.heap.size + 2 ∧
      W1.heap[w.heap.size + 1]? = some (.loop r0) ∧ W1.heap[w.heap.size]? = some (.deferred (some [])) ∧ r0.state = .ready ∧ r0.pending = none ∧ r0.fn = fn ∧ r0.tmps = a.tmps ∧ r0.params = ps ∧ r0.assign = assign ∧ r0.body = body := by
    refine ⟨_, { state := .ready, pending := none, fn, tmps := a.tmps, params := ps, assign, body, defers := w.heap.size }, run_enterLoop_outer _ _ _ _ _, ((Below.refl _ w).alloc (Nat.le_refl _) _).alloc (by simp) _, by simp, ?_, ?_, rfl, rfl, rfl, rfl, rfl, rfl, rfl⟩
    · have := World.alloc_heap_new (w.alloc (.deferred (some []))) (.loop { state := .ready, pending := none, fn, tmps := a.tmps, params := ps, assign, body, defers := w.heap.size })
      rwa [World.size_alloc] at this
    · exact (Below.heap_alloc _ _ _ (by simp)).trans (World.alloc_heap_new w _)
  obtain ⟨W1, r0, hen, hB1, hsz, hL, hD, e1, e2, e3, e4, e5, e6, e7⟩ := go
  refine ⟨w.heap.size + 1, [{ target := .collected w.heap.size, args := #[] }], W1, { target := .fn (.func gf) lb, args := #[.func (.yield (w.heap.size + 1)) #[] #[]] }, W1, gf, #[.func (.yield (w.heap.size + 1)) #[] #[]] ++ lb, W1, hen, ?_, ?_, ?_, fun _ => h1, ?_⟩
  · simp only [resolve, hg]
    simp [go_sem]
  · intro f' hf'
    simp [Target.leads] at hf'
    subst hf'
    exact hFg
  · simp [invoke, go_sem, eg]
  refine (hseq (w.heap.size + 1) (fun pre W => I pre W ∧ W.heap[w.heap.size + 1]? = some (.loop r0) ∧ W.heap[w.heap.size]? = some (.deferred (some [])))
    (fun pre W => ∃ c r, Ix c pre W ∧ W.heap[w.heap.size + 1]? = some (.loop r) ∧ r.state ≠ .busy ∧ r.pending = some c ∧ W.heap[w.heap.size]? = some (.deferred (some []))) W1 (hb0.trans (hB1.mono hb0.size)) ?_ ?_ ?_ (fun pre W' hn hj => hNo pre W' hn hj.1) ⟨hI _ _ _ h0 hB1, hL, hD⟩).mono ?_
  · rintro s A B ⟨hi, hl, hd⟩ hb
    exact ⟨hI s A B hi (hb.mono (by omega)), (hb.block _ (by omega)).trans hl, (hb.block _ (by omega)).trans hd⟩
  · rintro s A B ⟨c, r, hi, hl, h3, h4, hd⟩ hb
    exact ⟨c, r, hIx c s A B hi (hb.mono (by omega)), (hb.block _ (by omega)).trans hl, h3, h4, (hb.block _ (by omega)).trans hd⟩
  · rintro pre x W ⟨hi, hl, hd⟩ hr
    have hlt0 : w.heap.size + 1 < W.heap.size := (Array.getElem?_eq_some_iff.1 hl).1
    refine ⟨r0.fn, _, r0.assign, r0.body, run_yield (P := P) (args := encs x) hl (by rw [e5]; exact hps x), roundIn_of_wpIn (by rw [e3]; exact hfn) ?_⟩
    rw [e4, e5, e6, e7]
    refine hassign _ x W _ fun a₁ W₁ hbb hat => ?_
    have hS1 : Stay (w.heap.size + 2) W W₁ := .of_below hbb
    replace hi := hI _ _ _ hi (hbb.mono (by omega))
    replace hl := (hbb.block _ hlt0).trans hl
    replace hd := (hbb.block _ (by omega)).trans hd
    replace hr := hRb _ _ _ _ hr hbb
    have hlt : w.heap.size + 1 < W₁.heap.size := (Array.getElem?_eq_some_iff.1 hl).1
    refine ⟨_, run_beginRound hl e1, ?_⟩
    have hl2 : (W₁.putObj (w.heap.size + 1) (.loop { r0 with state := .busy })).heap[w.heap.size + 1]? = some (.loop { r0 with state := .busy }) := World.putObj_heap_same hlt
    have hd2 : (W₁.putObj (w.heap.size + 1) (.loop { r0 with state := .busy })).heap[w.heap.size]? = some (.deferred (some [])) := (World.putObj_heap_other (by omega)).trans hd
    refine wpIn_mono (hbody _ pre x a₁ _ (hI _ _ _ hi (put_below W₁ _ (by omega))) (hRd _ _ _ _ _ _ hr hl) (hAt _ _ _ _ _ _ hat hl) (by simp; omega)) ?_
    have fin : ∀ (jump : Option Code) (W3 : World), Stay w.heap.size (W₁.putObj (w.heap.size + 1) (.loop { r0 with state := .busy })) W3 →
        (Instr.endRound (w.heap.size + 1) jump).run P W3 = .ok (.bool jump.isNone) (W3.putObj (w.heap.size + 1) (.loop { r0 with state := (if jump.isNone then .ready else .done), pending := jump })) ∧
        (W3.putObj (w.heap.size + 1) (.loop { r0 with state := (if jump.isNone then .ready else .done), pending := jump })).heap[w.heap.size + 1]? = some (.loop { r0 with state := (if jump.isNone then .ready else .done), pending := jump }) ∧
        (W3.putObj (w.heap.size + 1) (.loop { r0 with state := (if jump.isNone then .ready else .done), pending := jump })).heap[w.heap.size]? = some (.deferred (some [])) := fun jump W3 hk => by
      have hs := hk.size
      simp only [World.putObj_size] at hs
      have hl3 := (hk.same (w.heap.size + 1) (by omega) (by simp; omega)).trans hl2
      have hr3 := run_endRound (P := P) (r := { r0 with state := .busy }) jump hl3
      exact ⟨hr3, World.putObj_heap_same (by omega), (World.putObj_heap_other (by omega)).trans ((hk.same w.heap.size (Nat.le_refl _) (by simp; omega)).trans hd2)⟩
    rintro e a3 W3 hp
    cases e with
    | normal =>
      obtain ⟨hk, hi3⟩ := hp
      obtain ⟨g1, g2, g3⟩ := fin none W3 hk
      refine ⟨_, _, g1, .inl ⟨rfl, ⟨hI _ _ _ hi3 (put_below W3 _ (by omega)), ?_, g3⟩, ?_⟩⟩
      · rw [g2]
        have : r0 = { r0 with state := .ready, pending := none } := by rw [← e1, ← e2]
        rw [this]
        rfl
      · rw [hsz]
        refine hS1.trans ⟨by simp only [World.putObj_size]; have := hk.size; simpa using this, fun k h1 h2 => ?_⟩
        rw [World.putObj_heap_other (by omega), hk.same k (by omega) (by simp; omega), World.putObj_heap_other (by omega)]
    | ret =>
      obtain ⟨hk, hi3⟩ := hp
      obtain ⟨g1, g2, g3⟩ := fin (some .ret) W3 hk
      exact ⟨_, _, g1, .inr ⟨rfl, .ret, _, hIx _ _ _ _ hi3 (put_below W3 _ (by omega)), g2, by simp, rfl, g3⟩⟩
    | exit id =>
      obtain ⟨hk, hi3⟩ := hp
      obtain ⟨g1, g2, g3⟩ := fin (some (.exit id)) W3 hk
      exact ⟨_, _, g1, .inr ⟨rfl, .exit id, _, hIx _ _ _ _ hi3 (put_below W3 _ (by omega)), g2, by simp, rfl, g3⟩⟩
    | goto t =>
      obtain ⟨hk, hi3⟩ := hp
      obtain ⟨g1, g2, g3⟩ := fin (some (.goto t)) W3 hk
      exact ⟨_, _, g1, .inr ⟨rfl, .goto t, _, hIx _ _ _ _ hi3 (put_below W3 _ (by omega)), g2, by simp, rfl, g3⟩⟩
    | panic ch => exact hp.elim
    | outgrown => exact hp.elim
  · rintro e W2 ⟨⟨v, rfl⟩, (⟨xs, hS, hi, hl, hd⟩ | ⟨pre, hSp, c, r, hi, hl, h3, h4, hd⟩)⟩
    · have h := run_endLoop (P := P) hl (by rw [e1]; simp)
      rw [e2] at h
      exact ⟨none, _, h, hdone _ xs _ (Nat.le_refl _) hS (hI _ _ _ hi (put_below W2 _ (by omega))) ((World.putObj_heap_other (by omega)).trans hd)⟩
    · have h := run_endLoop (P := P) hl h3
      rw [h4] at h
      exact ⟨some c, _, h, hstop _ c pre _ (Nat.le_refl _) hSp (hIx c _ _ _ hi (put_below W2 _ (by omega))) ((World.putObj_heap_other (by omega)).trans hd)⟩

set_option maxRecDepth 100000 in
set_option maxHeartbeats 4000000 in
/-- the walk that is stopped at its first yield -/
theorem walk_stop {n l b2 b3 b4 B : Nat} {a0 a1 a2 a3 a4 a5 a6 a7 : Value} {W : World} (J1 Jx : World → Prop) (hJ1 : ∀ A, ¬ J1 A) (hB : B ≤ W.heap.size)
    (c2 : W.cell? ⟨b2, 0, none⟩ = some (.func (.yield l) #[] #[])) (c3 : W.cell? ⟨b3, 0, none⟩ = some (.slice none 0 0)) (l2 : b2 < W.heap.size) (l3 : b3 < W.heap.size)
    (hY : ∀ W1, Below W.heap.size W W1 → YieldAt Fence.wide n Tryz.prog l #[.slice none 0 0, .agg #[a0, a1, a2, a3, a4, a5, a6, a7]] W1 fun e W' =>
      (e = .returned (.bool true) ∧ J1 W' ∧ Stay B W1 W') ∨ (e = .returned (.bool false) ∧ Jx W')) :
    CallsIn Fence.wide n Tryz.prog 202 #[.agg #[a0, a1, a2, a3, a4, a5, a6, a7], .pointer (some ⟨b2, 0, none⟩), .pointer (some ⟨b3, 0, none⟩), .pointer (some ⟨b4, 0, none⟩)] W fun e W' =>
      (e = .returned (.bool true) ∧ J1 W') ∨ (e = .returned (.bool false) ∧ Jx W') := by
  have HY := hide hY
  clear hY
  refine callsIn_of_wp Tryz.func202 rfl trivial ?_ rfl
  simp only [Tryz.ntmps202, List.size_toArray, List.length_cons, List.length_nil, Nat.reduceAdd, Nat.reduceSub, Array.replicate_succ, Array.replicate_zero, List.push_toArray, List.append_toArray, List.nil_append, List.cons_append]
  have K : Below W.heap.size W (W.alloc (.cells #[a0, a1, a2, a3, a4, a5, a6, a7] 31)) := (Below.refl _ W).alloc (Nat.le_refl _) _
  have BX := bx8_new W a0 a1 a2 a3 a4 a5 a6 a7 31
  have d2 := (K.cell (p := ⟨b2, 0, none⟩) l2).trans c2
  have d3 := (K.cell (p := ⟨b3, 0, none⟩) l3).trans c3
  have ls : W.heap.size < (W.alloc (.cells #[a0, a1, a2, a3, a4, a5, a6, a7] 31)).heap.size := by simp
  obtain ⟨fn, tmps, assign, body, hy, hR⟩ := yield_any (m := n - 1) (HY.out _ K)
  have HB8 := hide BX
  have HK := hide K
  obtain ⟨z0, z1, z2, z3, z4, z5, z6, z7⟩ := BX
  clear K
  gi_wp2
  refine ⟨fun h => (by cases h), hR.mono ?_⟩
  rintro e W3 (⟨rfl, hJ3, hS⟩ | ⟨rfl, hx⟩)
  · exact absurd hJ3 (hJ1 _)
  · gi_wp2
    go_ret
    exact .inr ⟨rfl, hx⟩

set_option maxRecDepth 100000 in
set_option maxHeartbeats 4000000 in
theorem nodes_stop {n Bn : Nat} {a0 a1 a2 a3 a4 a5 a6 a7 : Value} {w : World} (hb : Bx8 w Bn a0 a1 a2 a3 a4 a5 a6 a7) :
    SeqS Fence.wide n Tryz.prog 201 #[.pointer (some ⟨Bn, 0, none⟩)] (leafEnc a0 a1 a2 a3 a4 a5 a6 a7) (fun pre _ _ => pre = []) (fun xs => xs = [()]) (fun xs => xs = [()]) (fun xs => xs = [()]) w := by
  intro l J Jx W hW hJ hJx hY hNo h0
  have HW := hide (hb.below hW hb.lt)
  have HY := hide hY
  have HJ := hide hJ
  have h0' := hide h0
  have hlt : Bn < W.heap.size := Nat.lt_of_lt_of_le hb.lt hW.size
  have HNo := hide hNo
  clear hb hW hY hJ hJx h0 hNo
  refine callsIn_of_wp Tryz.func201 rfl trivial ?_ rfl
  simp only [Tryz.ntmps201, List.size_toArray, List.length_cons, List.length_nil, Nat.reduceAdd, Nat.reduceSub, Array.replicate_succ, Array.replicate_zero, List.push_toArray, List.append_toArray, List.nil_append, List.cons_append]
  have bY := Boxed.new W 256 (.func (.yield l) #[] #[])
  have bP := Boxed.new (W.alloc (.cells #[.func (.yield l) #[] #[]] 256)) 191 (.slice none 0 0)
  have bF := Boxed.new ((W.alloc (.cells #[.func (.yield l) #[] #[]] 256)).alloc (.cells #[.slice none 0 0] 191)) 40 .nilFunc
  rw [World.size_alloc] at bP
  rw [World.size_alloc, World.size_alloc] at bF
  have hcF := bF.cell
  have hfF := bF.frozen
  have K : Below W.heap.size W (((W.alloc (.cells #[.func (.yield l) #[] #[]] 256)).alloc (.cells #[.slice none 0 0] 191)).alloc (.cells #[.nilFunc] 40)) := (((Below.refl _ W).alloc (Nat.le_refl _) _).alloc (by simp) _).alloc (by simp; omega) _
  have hsF := bF.set (.func (.func 202) #[] #[.pointer (some ⟨W.heap.size, 0, none⟩), .pointer (some ⟨W.heap.size + 1, 0, none⟩), .pointer (some ⟨W.heap.size + 1 + 1, 0, none⟩)])
  have hst := store_fn (P := Tryz.prog) (f := .func 202) (y := #[.pointer (some ⟨W.heap.size, 0, none⟩), .pointer (some ⟨W.heap.size + 1, 0, none⟩), .pointer (some ⟨W.heap.size + 1 + 1, 0, none⟩)]) hcF hfF
  have HBY := hide (((bY.alloc (.cells #[.slice none 0 0] 191)).alloc (.cells #[.nilFunc] 40)).kept (grownBy_setCell' _ (W.heap.size + 1 + 1) (.func (.func 202) #[] #[.pointer (some ⟨W.heap.size, 0, none⟩), .pointer (some ⟨W.heap.size + 1, 0, none⟩), .pointer (some ⟨W.heap.size + 1 + 1, 0, none⟩)])) (by simp; omega))
  have HBP := hide ((bP.alloc (.cells #[.nilFunc] 40)).kept (grownBy_setCell' _ (W.heap.size + 1 + 1) (.func (.func 202) #[] #[.pointer (some ⟨W.heap.size, 0, none⟩), .pointer (some ⟨W.heap.size + 1, 0, none⟩), .pointer (some ⟨W.heap.size + 1 + 1, 0, none⟩)])) (by simp))
  replace K := K.setCell (p := ⟨W.heap.size + 1 + 1, 0, none⟩) (show W.heap.size ≤ W.heap.size + 1 + 1 by omega) (.func (.func 202) #[] #[.pointer (some ⟨W.heap.size, 0, none⟩), .pointer (some ⟨W.heap.size + 1, 0, none⟩), .pointer (some ⟨W.heap.size + 1 + 1, 0, none⟩)])
  clear bY bP bF hcF hfF
  generalize hU : (((W.alloc (.cells #[.func (.yield l) #[] #[]] 256)).alloc (.cells #[.slice none 0 0] 191)).alloc (.cells #[.nilFunc] 40)).setCell ⟨W.heap.size + 1 + 1, 0, none⟩ (.func (.func 202) #[] #[.pointer (some ⟨W.heap.size, 0, none⟩), .pointer (some ⟨W.heap.size + 1, 0, none⟩), .pointer (some ⟨W.heap.size + 1 + 1, 0, none⟩)]) = U at *
  clear hU
  obtain ⟨z0, z1, z2, z3, z4, z5, z6, z7⟩ := HW.out.below K hlt
  have hc := hsF.cell
  have l2 := HBY.out.lt
  have l3 := HBP.out.lt
  have HK := hide K
  clear K hsF
  gi_wp2_with fail
  refine ⟨trivial, fun h => (by cases h), (walk_stop (B := W.heap.size) (fun A => J [()] A) (fun A => Jx [()] A) (fun A => HNo.out _ A rfl) HK.out.size HBY.out.cell HBP.out.cell l2 l3 (fun W1 hb => yield_any (HY.out [] () W1 (HJ.out _ _ _ h0'.out (HK.out.trans (hb.mono HK.out.size))) rfl))).mono ?_⟩
  rintro e W3 (⟨rfl, h⟩ | ⟨rfl, h⟩)
  · gi_wp2
    go_end0
    exact ⟨⟨_, rfl⟩, .inl ⟨_, rfl, h⟩⟩
  · gi_wp2
    go_end0
    exact ⟨⟨_, rfl⟩, .inr ⟨_, rfl, h⟩⟩

end Go.Proofs.YtjigofmcflmelaaGreatDoor
