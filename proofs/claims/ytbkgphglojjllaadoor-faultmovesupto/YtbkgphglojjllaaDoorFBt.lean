/- errors as they are built of nodes; errors.is of them -/
import Derived.Test.YtbkgphglojjllaaDoorFBeyond
namespace Go.Proofs.YtbkgphglojjllaaDoor
open Go.RowKit Go.Extern.Stop Go.Stop Go.Extern
set_option linter.unusedVariables false

/-- the error that a node says -/
inductive Bt (w : World) (a : Nat → Addr) : Value → Nd → Prop
  | nil (x : Nd) (hk : ndNil x = true) : Bt w a .nilIface x
  | api (x : Nd) (m : Nat) (hk : x.kind = 1) (hm : m < 11) (hc : x.code = (m : Int) + 1) : Bt w a (.iface 95 (.pointer (some (a m)))) x
  | other (x : Nd) (g : Nat) (s : ByteArray) (hk : x.kind = 2) (hg : w.heap[g]? = some (.cells #[.string s] 97 (0, 0))) (hne : ∀ i, i < 12 → (a i).block ≠ g) : Bt w a (.iface 95 (.pointer (some ⟨g, 0, none⟩))) x
  | flt (x : Nd) (g : Nat) (e : Value) (hk : x.kind = 3) (hg : FltAt w g e x.place x.path) (h0 : x.kids = [] → e = .nilIface) (h1 : ∀ h : 0 < x.kids.length, Bt w a e x.kids[0]) : Bt w a (.iface 41 (.pointer (some ⟨g, 0, none⟩))) x
  | wraps (x : Nd) (g : Nat) (e : Value) (hk : x.kind = 4) (hg : w.heap[g]? = some (.cells #[e] 69 (0, 0))) (h0 : x.kids = [] → e = .nilIface) (h1 : ∀ h : 0 < x.kids.length, Bt w a e x.kids[0]) : Bt w a (.iface 67 (.pointer (some ⟨g, 0, none⟩))) x
  | many (x : Nd) (g : Nat) (ao : Option Addr) (cap : Nat) (vs : Nat → Value) (hk : x.kind = 5) (hg : w.heap[g]? = some (.cells #[.slice ao x.kids.length cap] 72 (0, 0))) (hl : x.kids.length ≤ 10000)
      (hx : 0 < x.kids.length → ∃ b, ao = some ⟨b, 0, none⟩ ∧ b < w.heap.size ∧ ∀ i, i < x.kids.length → w.cell? ⟨b, i, none⟩ = some (vs i)) (h1 : ∀ i (h : i < x.kids.length), Bt w a (vs i) x.kids[i]) : Bt w a (.iface 70 (.pointer (some ⟨g, 0, none⟩))) x
  | nilf (x : Nd) (hk : x.kind = 6) : Bt w a (.iface 41 (.pointer none)) x
  | claim (x : Nd) (g : Nat) (hk : x.kind = 7) (hg : w.heap[g]? = some (.cells #[.int .i64 x.code] 75 (0, 0))) : Bt w a (.iface 73 (.pointer (some ⟨g, 0, none⟩))) x
theorem Bt.far {w w' : World} {a : Nat → Addr} {v : Value} {x : Nd} (h : Bt w a v x) (hb : Below w.heap.size w w') : Bt w' a v x := by
  induction h with
  | nil x hk => exact .nil x hk
  | api x m hk hm hc => exact .api x m hk hm hc
  | other x g s hk hg hne => exact .other x g s hk ((hb.block _ (Array.getElem?_eq_some_iff.1 hg).1).trans hg) hne
  | flt x g e hk hg h0 h1 ih => exact .flt x g e hk (hg.below hb) h0 ih
  | wraps x g e hk hg h0 h1 ih => exact .wraps x g e hk ((hb.block _ (Array.getElem?_eq_some_iff.1 hg).1).trans hg) h0 ih
  | many x g ao cap vs hk hg hl hx h1 ih =>
    refine .many x g ao cap vs hk ((hb.block _ (Array.getElem?_eq_some_iff.1 hg).1).trans hg) hl (fun hp => ?_) ih
    obtain ⟨b, e1, e2, e3⟩ := hx hp
    exact ⟨b, e1, Nat.lt_of_lt_of_le e2 hb.size, fun i hi => (hb.cell (p := ⟨b, i, none⟩) e2).trans (e3 i hi)⟩
  | nilf x hk => exact .nilf x hk
  | claim x g hk hg => exact .claim x g hk ((hb.block _ (Array.getElem?_eq_some_iff.1 hg).1).trans hg)
theorem Bt.iface {w : World} {a : Nat → Addr} {v : Value} {x : Nd} (h : Bt w a v x) : (v = .nilIface ∧ ndNil x = true) ∨ ∃ u p, v = .iface u p ∧ ndNil x = false := by
  have hn : ∀ k : Int, x.kind = k → 2 ≤ k → k ≤ 7 → ndNil x = false := fun k h1 h2 h3 => decide_eq_false (by omega)
  cases h with
  | nil _ hk => exact Or.inl ⟨rfl, hk⟩
  | api _ m hk hm hc => exact Or.inr ⟨_, _, rfl, decide_eq_false (by omega)⟩
  | other _ g s hk => exact Or.inr ⟨_, _, rfl, hn 2 hk (by omega) (by omega)⟩
  | flt _ g e hk => exact Or.inr ⟨_, _, rfl, hn 3 hk (by omega) (by omega)⟩
  | wraps _ g e hk => exact Or.inr ⟨_, _, rfl, hn 4 hk (by omega) (by omega)⟩
  | many _ g ao cap vs hk => exact Or.inr ⟨_, _, rfl, hn 5 hk (by omega) (by omega)⟩
  | nilf _ hk => exact Or.inr ⟨_, _, rfl, hn 6 hk (by omega) (by omega)⟩
  | claim _ g hk => exact Or.inr ⟨_, _, rfl, hn 7 hk (by omega) (by omega)⟩
theorem nd_nil_any {x : Nd} (h : ndNil x = true) {i : Nat} (hi : i < 11) : ndB i x = false := by
  have h' := of_decide_eq_true h
  rw [ndB_eq]
  rcases h' with h | h | ⟨h1, h2⟩
  · rw [if_neg (by omega), if_neg (by omega), if_neg (by omega)]
  · rw [if_neg (by omega), if_neg (by omega), if_neg (by omega)]
  · rw [if_pos (by omega)]; exact decide_eq_false (by omega)
theorem bOneNoIs (v : Value) (xT : TypeId) (w : World) : (Instr.typeAssert (.iface 67 v) xT 114 true).run Tryd.prog w = .ok (.tuple #[.nilIface, .bool false]) w := run_typeAssert_lacksB Tryd.underlying114 (by kernel_rfl) (by kernel_rfl) v xT w
theorem bOneHasUn (v : Value) (xT : TypeId) (w : World) : (Instr.typeAssert (.iface 67 v) xT 110 true).run Tryd.prog w = .ok (.tuple #[.iface 67 v, .bool true]) w := run_typeAssert_hasB Tryd.underlying110 (by kernel_rfl) v xT w
theorem bManyNoIs (v : Value) (xT : TypeId) (w : World) : (Instr.typeAssert (.iface 70 v) xT 114 true).run Tryd.prog w = .ok (.tuple #[.nilIface, .bool false]) w := run_typeAssert_lacksB Tryd.underlying114 (by kernel_rfl) (by kernel_rfl) v xT w
theorem bManyNoUn (v : Value) (xT : TypeId) (w : World) : (Instr.typeAssert (.iface 70 v) xT 110 true).run Tryd.prog w = .ok (.tuple #[.nilIface, .bool false]) w := run_typeAssert_lacksB Tryd.underlying110 (by kernel_rfl) (by kernel_rfl) v xT w
theorem bManyHasUs (v : Value) (xT : TypeId) (w : World) : (Instr.typeAssert (.iface 70 v) xT 112 true).run Tryd.prog w = .ok (.tuple #[.iface 70 v, .bool true]) w := run_typeAssert_hasB Tryd.underlying112 (by kernel_rfl) v xT w
theorem bClaimHasIs (v : Value) (xT : TypeId) (w : World) : (Instr.typeAssert (.iface 73 v) xT 114 true).run Tryd.prog w = .ok (.tuple #[.iface 73 v, .bool true]) w := run_typeAssert_hasB Tryd.underlying114 (by kernel_rfl) v xT w
theorem bClaimNoUn (v : Value) (xT : TypeId) (w : World) : (Instr.typeAssert (.iface 73 v) xT 110 true).run Tryd.prog w = .ok (.tuple #[.nilIface, .bool false]) w := run_typeAssert_lacksB Tryd.underlying110 (by kernel_rfl) (by kernel_rfl) v xT w
theorem bClaimNoUs (v : Value) (xT : TypeId) (w : World) : (Instr.typeAssert (.iface 73 v) xT 112 true).run Tryd.prog w = .ok (.tuple #[.nilIface, .bool false]) w := run_typeAssert_lacksB Tryd.underlying112 (by kernel_rfl) (by kernel_rfl) v xT w
theorem bOneM (v : Value) (w : World) : (Go.method 270 67 v "Unwrap").run Tryd.prog w = .ok (97, v) w := by kernel_rfl
theorem bManyM (v : Value) (w : World) : (Go.method 270 70 v "Unwrap").run Tryd.prog w = .ok (99, v) w := by kernel_rfl
theorem bClaimM (v : Value) (w : World) : (Go.method 270 73 v "Is").run Tryd.prog w = .ok (101, v) w := by kernel_rfl
theorem bNilIs (xT : TypeId) (w : World) : (Instr.typeAssert .nilIface xT 114 true).run Tryd.prog w = .ok (.tuple #[.nilIface, .bool false]) w := by kernel_rfl
theorem bNilUn (xT : TypeId) (w : World) : (Instr.typeAssert .nilIface xT 110 true).run Tryd.prog w = .ok (.tuple #[.nilIface, .bool false]) w := by kernel_rfl
theorem bNilUs (xT : TypeId) (w : World) : (Instr.typeAssert .nilIface xT 112 true).run Tryd.prog w = .ok (.tuple #[.nilIface, .bool false]) w := by kernel_rfl
theorem bNilEql (u : TypeId) (p : Value) (w : World) : (binOp .eql 27 .nilIface (.iface u p)).run Tryd.prog w = .ok (.bool false) w := by
  have h : ∀ d : Nat, (Op.equalIn (d + 1) 27 .nilIface (.iface u p)).run Tryd.prog w = .ok false w := fun d => by simp [Op.equalIn, run_underlying Tryd.underlying27]
  simp only [binOp]
  simp [Op.equal, Op.maxDepth, h 9999]
set_option maxRecDepth 100000 in
theorem is_nil13 {w : World} {p : Addr} :
    Calls Tryd.prog 50 #[.nilIface, .iface 95 (.pointer (some p)), .bool true] w fun e w' => e = .returned (.bool false) ∧ w' = w := by
  have n1 := bNilIs
  have n2 := bNilUn
  have n3 := bNilUs
  have n4 := bNilEql
  go_enter Tryd.func50, Tryd.ntmps50
  go_wp2
  refine wp_loop_rounds 1 ?_
  rw [rounds_succ]
  go_wp2
  go_ret
  exact ⟨rfl, rfl⟩

end Go.Proofs.YtbkgphglojjllaaDoor
