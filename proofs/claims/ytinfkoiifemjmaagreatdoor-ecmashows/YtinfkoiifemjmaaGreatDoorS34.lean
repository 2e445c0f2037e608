/- EAs, EEr, EEb -/
import Derived.Test.YtinfkoiifemjmaaGreatDoorS10
import Derived.WalkKit
import Derived.LaidEql
import Derived.Stop.Asserts
import Derived.RowKitTokens
import Derived.Lib.Builder
namespace Go.Proofs.YtinfkoiifemjmaaGreatDoor
open Go.RowKit Go.Extern.Stop Go.Stop Go.Extern
set_option linter.unusedVariables false

theorem aValueOf (t : Addr) (w : World) : (ReflectliteValue.unpack (.iface 120 (.pointer (some t)))).run Tryz.prog w
    = .ok (.agg #[.pointer (some ⟨18, 120, none⟩), .pointer (some ⟨w.heap.size, 0, none⟩), .int .u64 150]) (w.alloc (.cells #[.pointer (some t)] 120)) := by kernel_rfl
theorem aType (a : Addr) (w : World) : (ReflectliteValue.methodAny (ReflectliteValue.valueError "reflectlite.Value.Type" 0) (fun t _ _ _ => ReflectliteType.toType t) #[.agg #[.pointer (some ⟨18, 120, none⟩), .pointer (some a), .int .u64 150]]).run Tryz.prog w
    = .ok (.iface 151 (.agg #[.pointer (some ⟨18, 120, none⟩)])) w := by kernel_rfl
theorem aMethodKind (h : Value) (w : World) : (Go.method 365 151 (.agg #[h]) "Kind").run Tryz.prog w = .ok (204, h) w := by kernel_rfl
theorem aKind2 (w : World) : ((ReflectliteType.abiMethod fun t => (fun a : Nat => Value.int IntKind.u8 (a : Int)) <$> Rtype.kind t) #[.pointer (some ⟨18, 120, none⟩)]).run Tryz.prog w = .ok (.int .u8 22) w := by kernel_rfl
theorem aKind1 (w : World) : ((ReflectliteType.abiMethod fun t => (fun a : Nat => Value.int IntKind.u8 (a : Int)) <$> Rtype.kind t) #[.pointer (some ⟨18, 69, none⟩)]).run Tryz.prog w = .ok (.int .u8 22) w := by kernel_rfl
theorem arlm (z : Sem Value) (f : TypeId → Addr → Nat → Nat → Sem Value) (v : Value) :
    ReflectliteValue.method z f #[v] = (do match ← ReflectliteValue.parts v with | none => z | some (t, a, fl) => f t a fl (fl % 32)) := rfl
theorem aParts2 (a : Addr) (w : World) : (ReflectliteValue.parts (.agg #[.pointer (some ⟨18, 120, none⟩), .pointer (some a), .int .u64 150])).run Tryz.prog w = .ok (some (120, a, 150)) w := by kernel_rfl
theorem aIsNil (a p : Addr) (W : World) (ha : W.cell? a = some (.pointer (some p))) :
    (ReflectliteValue.method (ReflectliteValue.valueError "reflectlite.Value.IsNil" 0) ReflectliteValue.isNil #[.agg #[.pointer (some ⟨18, 120, none⟩), .pointer (some a), .int .u64 150]]).run Tryz.prog W = .ok (.bool false) W := by
  rw [arlm]
  simp only [Sem.run_bind, aParts2, Result.andThen]
  simp [ReflectliteValue.isNil, loadVar, isAgg, underlying, Tryz.underlying120, ha, Result.andThen]
theorem aMethodElem (h : Value) (w : World) : (Go.method 365 151 (.agg #[h]) "Elem").run Tryz.prog w = .ok (214, .agg #[h]) w := by kernel_rfl
theorem aMethodImplements (h : Value) (w : World) : (Go.method 365 151 (.agg #[h]) "Implements").run Tryz.prog w = .ok (215, .agg #[h]) w := by kernel_rfl
theorem aMethodAssignableTo (h : Value) (w : World) : (Go.method 365 151 (.agg #[h]) "AssignableTo").run Tryz.prog w = .ok (212, .agg #[h]) w := by kernel_rfl
theorem aElem (w : World) : (ReflectliteType.method ReflectliteType.elem #[.agg #[.pointer (some ⟨18, 120, none⟩)]]).run Tryz.prog w = .ok (.iface 151 (.agg #[.pointer (some ⟨18, 69, none⟩)])) w := by kernel_rfl
theorem aImplements (w : World) : (ReflectliteType.relation "Implements" ReflectliteType.implements_ #[.agg #[.pointer (some ⟨18, 69, none⟩)], .iface 151 (.agg #[.pointer (some ⟨18, 39, none⟩)])]).run Tryz.prog w = .ok (.bool true) w := by kernel_rfl
theorem aTypeOf (v : Value) (w : World) : (ReflectliteType.typeOf #[.iface 69 v]).run Tryz.prog w = .ok (.iface 151 (.agg #[.pointer (some ⟨18, 69, none⟩)])) w := by kernel_rfl
theorem aAssignable (w : World) : (ReflectliteType.relation "AssignableTo" ReflectliteType.assignableTo #[.agg #[.pointer (some ⟨18, 69, none⟩)], .iface 151 (.agg #[.pointer (some ⟨18, 69, none⟩)])]).run Tryz.prog w = .ok (.bool true) w := by kernel_rfl
theorem aValueOf1 (e : Addr) (w : World) : (ReflectliteValue.unpack (.iface 69 (.pointer (some e)))).run Tryz.prog w
    = .ok (.agg #[.pointer (some ⟨18, 69, none⟩), .pointer (some ⟨w.heap.size, 0, none⟩), .int .u64 150]) (w.alloc (.cells #[.pointer (some e)] 69)) := by kernel_rfl
theorem aElemOf (w : World) : (Rtype.elem? 120).run Tryz.prog w = .ok (some 69) w := by kernel_rfl
theorem aMk (p : Addr) (w : World) : (ReflectliteValue.mk 69 p ReflectliteValue.flagAddr).run Tryz.prog w = .ok (.agg #[.pointer (some ⟨18, 69, none⟩), .pointer (some p), .int .u64 406]) w := by kernel_rfl
theorem aElemV (a p : Addr) (W : World) (ha : W.cell? a = some (.pointer (some p))) :
    (ReflectliteValue.method (ReflectliteValue.valueError "reflectlite.Value.Elem" 0) ReflectliteValue.elem #[.agg #[.pointer (some ⟨18, 120, none⟩), .pointer (some a), .int .u64 150]]).run Tryz.prog W
      = .ok (.agg #[.pointer (some ⟨18, 69, none⟩), .pointer (some p), .int .u64 406]) W := by
  rw [arlm]
  simp only [Sem.run_bind, aParts2, Result.andThen]
  simp [ReflectliteValue.elem, loadVar, isAgg, underlying, Tryz.underlying120, ha, Result.andThen, aElemOf, aMk]
theorem aParts1a (a : Addr) (w : World) : (ReflectliteValue.parts (.agg #[.pointer (some ⟨18, 69, none⟩), .pointer (some a), .int .u64 406])).run Tryz.prog w = .ok (some (69, a, 406)) w := by kernel_rfl
theorem aParts1 (a : Addr) (w : World) : (ReflectliteValue.parts (.agg #[.pointer (some ⟨18, 69, none⟩), .pointer (some a), .int .u64 150])).run Tryz.prog w = .ok (some (69, a, 150)) w := by kernel_rfl
theorem aDirect (w : World) : (Rtype.directlyAssignable 69 69).run Tryz.prog w = .ok true w := by kernel_rfl
theorem aSet (ta b e : Addr) (old : Value) (W : World) (hb : W.cell? b = some (.pointer (some e))) (ht : W.cell? ta = some old) (hf : W.frozen? ta = false) :
    (ReflectliteValue.set #[.agg #[.pointer (some ⟨18, 69, none⟩), .pointer (some ta), .int .u64 406], .agg #[.pointer (some ⟨18, 69, none⟩), .pointer (some b), .int .u64 150]]).run Tryz.prog W
      = .ok (.tuple #[]) (W.setCell ta (.pointer (some e))) := by
  show (Sem.run Tryz.prog (bind (ReflectliteValue.parts _) _) W) = _
  rw [Sem.run_bind]
  erw [aParts1a]
  simp only [Result.andThen]
  rw [Sem.run_bind]
  erw [aParts1]
  simp only [Result.andThen]
  simp [ReflectliteValue.flagAddr, loadVar, isAgg, underlying, Tryz.underlying69, hb, Result.andThen, aDirect, storeVar, Value.cells, storeCells, Addr.add]
  rw [run_store Tryz.prog W ta _ _ (by rfl)]
  simp [ht, hf]

set_option maxHeartbeats 4000000 in
set_option maxRecDepth 100000 in
theorem as_flt {w : World} {e : Addr} (hg : w.cell? ⟨12, 0, none⟩ = some (.iface 151 (.agg #[.pointer (some ⟨18, 39, none⟩)]))) :
    Calls Tryz.prog 66 #[.iface 69 (.pointer (some e)), .iface 120 (.pointer (some ⟨w.heap.size, 0, none⟩))] (w.alloc (.cells #[.pointer none] 69)) fun ev w' => ev = .returned (.bool true) ∧ Below w.heap.size w w' ∧ w'.cell? ⟨w.heap.size, 0, none⟩ = some (.pointer (some e)) := by
  have hgl : 12 < w.heap.size := by
    rcases Nat.lt_or_ge 12 w.heap.size with h | h
    · exact h
    · simp [World.cell?, Array.getElem?_eq_none h] at hg
  have hB0 : Below w.heap.size w (w.alloc (.cells #[.pointer none] 69)) := (Below.refl _ _).alloc (Nat.le_refl _) _
  obtain ⟨t, ht⟩ : ∃ t : Addr, t = ⟨w.heap.size, 0, none⟩ := ⟨_, rfl⟩
  have htb : t.block = w.heap.size := by rw [ht]
  have ht0 : (w.alloc (.cells #[.pointer none] 69)).cell? t = some (.pointer none) := by rw [ht]; simp
  have hf0 : (w.alloc (.cells #[.pointer none] 69)).frozen? t = false := by rw [ht]; exact Lib.frozen_of_heap (heap_alloc_new w _) 0
  have hz : (w.alloc (.cells #[.pointer none] 69)).heap.size = w.heap.size + 1 := by simp
  have hg0 : (w.alloc (.cells #[.pointer none] 69)).cell? ⟨12, 0, none⟩ = some (.iface 151 (.agg #[.pointer (some ⟨18, 39, none⟩)])) := by
    rw [World.cell?_alloc_lt _ _ ⟨12, 0, none⟩ hgl]; exact hg
  rw [← ht]
  have HT := hide ht
  have HB0 := hide hB0
  clear ht hB0 hg
  generalize w.alloc (.cells #[.pointer none] 69) = W at *
  have HZ := hide hz
  have h6 := @run_callFunc_extern Tryz.prog 102 _ (fun args => ReflectliteValue.unpack (args.getD 0 (.tuple #[]))) Tryz.func102 (by kernel_rfl) (by kernel_rfl) (by kernel_rfl) (by kernel_rfl)
  have h7 := @run_callFunc_extern Tryz.prog 103 _ (ReflectliteValue.methodAny (ReflectliteValue.valueError "reflectlite.Value.Type" 0) (fun t _ _ _ => ReflectliteType.toType t)) Tryz.func103 (by kernel_rfl) (by kernel_rfl) (by kernel_rfl) (by kernel_rfl)
  have h8 := @run_callFunc_extern Tryz.prog 104 _ (ReflectliteValue.method (ReflectliteValue.valueError "reflectlite.Value.IsNil" 0) ReflectliteValue.isNil) Tryz.func104 (by kernel_rfl) (by kernel_rfl) (by kernel_rfl) (by kernel_rfl)
  have h27 := @run_callFunc_extern Tryz.prog 204 _ (ReflectliteType.abiMethod fun t => do pure (.int .u8 (← Rtype.kind t))) Tryz.func204 (by kernel_rfl) (by kernel_rfl) (by kernel_rfl) (by kernel_rfl)
  have h37 := @run_callFunc_extern Tryz.prog 214 _ (ReflectliteType.method ReflectliteType.elem) Tryz.func214 (by kernel_rfl) (by kernel_rfl) (by kernel_rfl) (by kernel_rfl)
  have h38 := @run_callFunc_extern Tryz.prog 215 _ (ReflectliteType.relation "Implements" ReflectliteType.implements_) Tryz.func215 (by kernel_rfl) (by kernel_rfl) (by kernel_rfl) (by kernel_rfl)
  have h10 := @run_callFunc_extern Tryz.prog 64 _ ReflectliteType.typeOf Tryz.func64 (by kernel_rfl) (by kernel_rfl) (by kernel_rfl) (by kernel_rfl)
  have h35 := @run_callFunc_extern Tryz.prog 212 _ (ReflectliteType.relation "AssignableTo" ReflectliteType.assignableTo) Tryz.func212 (by kernel_rfl) (by kernel_rfl) (by kernel_rfl) (by kernel_rfl)
  have h11 := @run_callFunc_extern Tryz.prog 140 _ (ReflectliteValue.method (ReflectliteValue.valueError "reflectlite.Value.Elem" 0) ReflectliteValue.elem) Tryz.func140 (by kernel_rfl) (by kernel_rfl) (by kernel_rfl) (by kernel_rfl)
  have h12 := @run_callFunc_extern Tryz.prog 141 _ ReflectliteValue.set Tryz.func141 (by kernel_rfl) (by kernel_rfl) (by kernel_rfl) (by kernel_rfl)
  have tO := aTypeOf
  have mA := aMethodAssignableTo
  have a25 := aAssignable
  have v25 := aValueOf1
  have f6 := aValueOf
  have f7 := aType
  have mK := aMethodKind
  have mE := aMethodElem
  have mI := aMethodImplements
  have k27 := aKind2
  have k25 := aKind1
  have e27 := aElem
  have i25 := aImplements
  have n8 := aIsNil ⟨W.heap.size, 0, none⟩ t ((W.alloc (.cells #[.pointer (some t)] 120)).alloc (.cells #[.pointer (some ⟨18, 120, none⟩), .pointer (some ⟨W.heap.size, 0, none⟩), .int .u64 150] 163)) (by simp)
  have hlt : 12 < W.heap.size := by omega
  have hg2 : ((W.alloc (.cells #[.pointer (some t)] 120)).alloc (.cells #[.pointer (some ⟨18, 120, none⟩), .pointer (some ⟨W.heap.size, 0, none⟩), .int .u64 150] 163)).cell? ⟨12, 0, none⟩ = some (.iface 151 (.agg #[.pointer (some ⟨18, 39, none⟩)])) := by
    rw [World.cell?_alloc_lt _ _ ⟨12, 0, none⟩ (by simp; omega), World.cell?_alloc_lt _ _ ⟨12, 0, none⟩ hlt]; exact hg0
  have htl : t.block < W.heap.size := by omega
  have el := aElemV ⟨W.heap.size, 0, none⟩ t (((W.alloc (.cells #[.pointer (some t)] 120)).alloc (.cells #[.pointer (some ⟨18, 120, none⟩), .pointer (some ⟨W.heap.size, 0, none⟩), .int .u64 150] 163)).alloc (.cells #[.pointer (some ⟨18, 120, none⟩), .pointer (some ⟨W.heap.size, 0, none⟩), .int .u64 150] 163)) (by rw [World.cell?_alloc_lt _ _ ⟨W.heap.size, 0, none⟩ (by simp; omega)]; simp)
  have st := aSet t ⟨W.heap.size + 1 + 1 + 1, 0, none⟩ e (.pointer none) ((((W.alloc (.cells #[.pointer (some t)] 120)).alloc (.cells #[.pointer (some ⟨18, 120, none⟩), .pointer (some ⟨W.heap.size, 0, none⟩), .int .u64 150] 163)).alloc (.cells #[.pointer (some ⟨18, 120, none⟩), .pointer (some ⟨W.heap.size, 0, none⟩), .int .u64 150] 163)).alloc (.cells #[.pointer (some e)] 69))
    (by rw [World.cell?_alloc_at _ _ _ _ (by simp)]; rfl)
    (by rw [World.cell?_alloc_lt _ _ t (by simp; omega), World.cell?_alloc_lt _ _ t (by simp; omega), World.cell?_alloc_lt _ _ t (by simp; omega), World.cell?_alloc_lt _ _ t htl]; exact ht0)
    (by rw [World.frozen?_alloc_old _ _ t (by simp; omega), World.frozen?_alloc_old _ _ t (by simp; omega), World.frozen?_alloc_old _ _ t (by simp; omega), World.frozen?_alloc_old _ _ t (Nat.ne_of_lt htl)]; exact hf0)
  have HTB := hide htb
  clear hz htb
  go_enter Tryz.func66, Tryz.ntmps66
  go_wp2
  refine wp_loop_rounds 1 ?_
  rw [rounds_succ]
  go_wp2
  go_ret
  refine ⟨rfl, ?_, ?_⟩
  · have hz := HZ.out
    refine Below.setCell ?_ (Nat.le_of_eq HTB.out.symm) _
    refine Below.alloc (Below.alloc (Below.alloc (Below.alloc HB0.out (by omega) _) (by simp; omega) _) (by simp; omega) _) (by simp; omega) _
  · have hz := HZ.out
    have hl : t.block < ((((W.alloc (.cells #[.pointer (some t)] 120)).alloc (.cells #[.pointer (some ⟨18, 120, none⟩), .pointer (some ⟨W.heap.size, 0, none⟩), .int .u64 150] 163)).alloc (.cells #[.pointer (some ⟨18, 120, none⟩), .pointer (some ⟨W.heap.size, 0, none⟩), .int .u64 150] 163)).alloc (.cells #[.pointer (some e)] 69)).heap.size := by simp; omega
    have hc : ((((W.alloc (.cells #[.pointer (some t)] 120)).alloc (.cells #[.pointer (some ⟨18, 120, none⟩), .pointer (some ⟨W.heap.size, 0, none⟩), .int .u64 150] 163)).alloc (.cells #[.pointer (some ⟨18, 120, none⟩), .pointer (some ⟨W.heap.size, 0, none⟩), .int .u64 150] 163)).alloc (.cells #[.pointer (some e)] 69)).cell? t = some (.pointer none) := by rw [World.cell?_alloc_lt _ _ t (by simp; omega), World.cell?_alloc_lt _ _ t (by simp; omega), World.cell?_alloc_lt _ _ t (by simp; omega), World.cell?_alloc_lt _ _ t htl]; exact ht0
    first | exact World.cell?_setCell_same _ _ _ hc | exact World.cell?_setCell_same _ _ hc | exact World.cell?_setCell_same _ hc

end Go.Proofs.YtinfkoiifemjmaaGreatDoor

namespace Go.Proofs.YtinfkoiifemjmaaGreatDoor
open Go.RowKit Go.Extern.Stop Go.Stop Go.Extern
set_option linter.unusedVariables false

/-- the entry of Comparable -/
noncomputable def eCmpF : Array Value → Sem Value := (Extern.find Tryz.f213).getD (fun _ => pure (.bool false))
theorem eCmpAt : Extern.find Tryz.f213 = some eCmpF := by kernel_rfl
theorem eTypeOf (v : Value) (w : World) : (Extern.ReflectliteType.typeOf #[.iface 235 v]).run Tryz.prog w = .ok (.iface 151 (.agg #[.pointer (some ⟨18, 235, none⟩)])) w := by kernel_rfl
theorem eComparable (w : World) : (eCmpF #[.agg #[.pointer (some ⟨18, 235, none⟩)]]).run Tryz.prog w = .ok (.bool true) w := by kernel_rfl
theorem eMethodComparable (v : Value) (w : World) : (Go.method 365 151 v "Comparable").run Tryz.prog w = .ok (213, v) w := by kernel_rfl
theorem eComp : (Tryz.prog.info? 235).map (·.comparable) = some true := by kernel_rfl
theorem eSize : (Tryz.prog.info? 253).map (·.size) = some 1 := by kernel_rfl
theorem eNoIsE (v : Value) (xT : TypeId) (w : World) : (Instr.typeAssert (.iface 235 v) xT 153 true).run Tryz.prog w = .ok (.tuple #[.nilIface, .bool false]) w := run_typeAssert_lacksB Tryz.underlying153 (by kernel_rfl) (by kernel_rfl) v xT w
theorem eNoUnwrapE (v : Value) (xT : TypeId) (w : World) : (Instr.typeAssert (.iface 235 v) xT 156 true).run Tryz.prog w = .ok (.tuple #[.nilIface, .bool false]) w := run_typeAssert_lacksB Tryz.underlying156 (by kernel_rfl) (by kernel_rfl) v xT w
theorem eNoUnwrapsE (v : Value) (xT : TypeId) (w : World) : (Instr.typeAssert (.iface 235 v) xT 158 true).run Tryz.prog w = .ok (.tuple #[.nilIface, .bool false]) w := run_typeAssert_lacksB Tryz.underlying158 (by kernel_rfl) (by kernel_rfl) v xT w
theorem eNoIsF (v : Value) (xT : TypeId) (w : World) : (Instr.typeAssert (.iface 69 v) xT 153 true).run Tryz.prog w = .ok (.tuple #[.nilIface, .bool false]) w := run_typeAssert_lacksB Tryz.underlying153 (by kernel_rfl) (by kernel_rfl) v xT w
theorem eUnwrapF (v : Value) (xT : TypeId) (w : World) : (Instr.typeAssert (.iface 69 v) xT 156 true).run Tryz.prog w = .ok (.tuple #[.iface 69 v, .bool true]) w := run_typeAssert_hasB Tryz.underlying156 (by kernel_rfl) v xT w
theorem eMethodUnwrap (v : Value) (w : World) : (Go.method 365 69 v "Unwrap").run Tryz.prog w = .ok (209, v) w := by kernel_rfl

set_option maxRecDepth 100000 in
theorem is_wrap_same {w : World} {g : Nat} {b : Addr} (h1 : w.cell? ⟨g, 0, none⟩ = some (.iface 235 (.pointer (some b)))) :
    Calls Tryz.prog 38 #[.iface 69 (.pointer (some ⟨g, 0, none⟩)), .iface 235 (.pointer (some b))] w fun e w' => e = .returned (.bool true) ∧ w' = w := by
  obtain ⟨i, hi, hcmp⟩ := Option.map_eq_some_iff.1 eComp
  obtain ⟨j, hj, hjs⟩ := Option.map_eq_some_iff.1 eSize
  have h8 := @run_callFunc_extern Tryz.prog 64 _ Extern.ReflectliteType.typeOf Tryz.func64 (by kernel_rfl) (by kernel_rfl) (by kernel_rfl) (by kernel_rfl)
  have h32 := @run_callFunc_extern Tryz.prog 213 _ eCmpF Tryz.func213 (by kernel_rfl) (by kernel_rfl) (by kernel_rfl) eCmpAt
  have tT := eTypeOf
  have cT := eComparable
  have mR := eMethodComparable
  have nW := eNoIsF
  have uW := eUnwrapF
  have mU := eMethodUnwrap
  have heq := run_eql_iface_ptr_same (P := Tryz.prog) w b Tryz.underlying39 Tryz.underlying235 hi hcmp hj
  have hty := run_eql_iface_types (P := Tryz.prog) 69 235 (.pointer (some ⟨g, 0, none⟩)) (.pointer (some b)) Tryz.underlying39 (by decide) w
  go_enter Tryz.func38, Tryz.ntmps38
  go_wp2
  refine wp_loop_rounds 2 ?_
  rw [rounds_succ]
  go_wp2
  rw [rounds_succ]
  go_wp2
  go_ret
  exact ⟨rfl, rfl⟩

set_option maxRecDepth 100000 in
theorem is_wrap_other {w : World} {g : Nat} {a b : Addr} {ca cb : Array Value} {ta tb : TypeId} (h1 : w.cell? ⟨g, 0, none⟩ = some (.iface 235 (.pointer (some a)))) (hne : a ≠ b) (ha : w.heap[a.block]? = some (.cells ca ta (0, 0))) (hb : w.heap[b.block]? = some (.cells cb tb (0, 0))) :
    Calls Tryz.prog 38 #[.iface 69 (.pointer (some ⟨g, 0, none⟩)), .iface 235 (.pointer (some b))] w fun e w' => e = .returned (.bool false) ∧ w' = w := by
  obtain ⟨i, hi, hcmp⟩ := Option.map_eq_some_iff.1 eComp
  obtain ⟨j, hj, hjs⟩ := Option.map_eq_some_iff.1 eSize
  have h8 := @run_callFunc_extern Tryz.prog 64 _ Extern.ReflectliteType.typeOf Tryz.func64 (by kernel_rfl) (by kernel_rfl) (by kernel_rfl) (by kernel_rfl)
  have h32 := @run_callFunc_extern Tryz.prog 213 _ eCmpF Tryz.func213 (by kernel_rfl) (by kernel_rfl) (by kernel_rfl) eCmpAt
  have tT := eTypeOf
  have cT := eComparable
  have mR := eMethodComparable
  have nE := eNoIsE
  have uE := eNoUnwrapE
  have vE := eNoUnwrapsE
  have nW := eNoIsF
  have uW := eUnwrapF
  have mU := eMethodUnwrap
  have heq := run_eql_iface_ptr_other (P := Tryz.prog) w Tryz.underlying39 Tryz.underlying235 hi hcmp hj (by rw [hjs]; decide) hne ha hb
  have hty := run_eql_iface_types (P := Tryz.prog) 69 235 (.pointer (some ⟨g, 0, none⟩)) (.pointer (some b)) Tryz.underlying39 (by decide) w
  clear hne ha hb
  go_enter Tryz.func38, Tryz.ntmps38
  go_wp2
  refine wp_loop_rounds 2 ?_
  rw [rounds_succ]
  go_wp2
  rw [rounds_succ]
  go_wp2
  go_ret
  exact ⟨rfl, rfl⟩

/-- an error that errors.Is finds to be the m-th sentinel alone -/
def ErrIs (w : World) (a : Nat → Addr) (u : TypeId) (x : Value) (m : Nat) : Prop :=
  ∀ w', Below w.heap.size w w' → ∀ i, i < 11 → Calls Tryz.prog 38 #[.iface u x, .iface 235 (.pointer (some (a i)))] w' fun e w'' => e = .returned (.bool (decide (i = m))) ∧ w'' = w'
theorem errIs_flt {w : World} {a : Nat → Addr} (hS : Snt w a) {g k : Nat} (hg : w.heap[g]? = some (.cells #[.iface 235 (.pointer (some (a 2))), .int .i64 k, .string ⟨#[]⟩] 71 (0, 0))) : ErrIs w a 69 (.pointer (some ⟨g, 0, none⟩)) 2 := by
  intro w' hb i hi
  have hS' := hS.below hb
  have hg' : w'.heap[g]? = some (.cells #[.iface 235 (.pointer (some (a 2))), .int .i64 k, .string ⟨#[]⟩] 71 (0, 0)) := by
    rw [hb.block _ (Array.getElem?_eq_some_iff.1 hg).1]; exact hg
  have hc : w'.cell? ⟨g, 0, none⟩ = some (.iface 235 (.pointer (some (a 2)))) := by rw [Lib.cell_of_heap hg']; rfl
  by_cases h : i = 2
  · subst h; rw [decide_eq_true rfl]; exact is_wrap_same hc
  · rw [decide_eq_false h]
    obtain ⟨c, t, h1⟩ := hS'.obj 2 (by omega)
    obtain ⟨c2, t2, h2⟩ := hS'.obj i hi
    exact is_wrap_other hc (hS.ne 2 i (by omega) hi (fun e => h e.symm)) h1 h2

end Go.Proofs.YtinfkoiifemjmaaGreatDoor

namespace Go.Proofs.YtinfkoiifemjmaaGreatDoor
open Go.RowKit
set_option linter.unusedVariables false

/-- the handle of the type error lies in the world -/
def Hnd (w : World) : Prop := w.cell? ⟨12, 0, none⟩ = some (.iface 151 (.agg #[.pointer (some ⟨18, 39, none⟩)]))
theorem Hnd.below {w w' : World} (h : Hnd w) (hb : Below w.heap.size w w') : Hnd w' := by
  have hl : 12 < w.heap.size := by
    unfold Hnd at h
    rcases Nat.lt_or_ge 12 w.heap.size with g | g
    · exact g
    · simp [World.cell?, Array.getElem?_eq_none g] at h
  unfold Hnd
  rw [(ubcell0 hb).1 _ _ hl]; exact h

theorem code_nil {w : World} : Calls Tryz.prog 20 #[.nilIface] w fun e w' => e = .returned (.int .i64 0) ∧ w' = w := by
  go_enter Tryz.func20, Tryz.ntmps20
  go_wp2
  go_ret
  exact ⟨rfl, rfl⟩

set_option maxHeartbeats 4000000 in
set_option maxRecDepth 100000 in
theorem code_any {w : World} {a : Nat → Addr} {u : TypeId} {x : Value} {m : Nat} (hS : Snt w a) (hE : ErrIs w a u x m) (hm : m < 11) :
    Calls Tryz.prog 20 #[.iface u x] w fun e w' => e = .returned (.int .i64 ((m : Int) + 1)) ∧ Below w.heap.size w w' := by
  have c0 := hS.cell 0 (by omega); have c1 := hS.cell 1 (by omega); have c2 := hS.cell 2 (by omega); have c3 := hS.cell 3 (by omega)
  have c4 := hS.cell 4 (by omega); have c5 := hS.cell 5 (by omega); have c6 := hS.cell 6 (by omega); have c7 := hS.cell 7 (by omega)
  have c8 := hS.cell 8 (by omega); have c9 := hS.cell 9 (by omega); have c10 := hS.cell 10 (by omega)
  simp only [sG, List.getD_cons_zero, List.getD_cons_succ] at c0 c1 c2 c3 c4 c5 c6 c7 c8 c9 c10
  have HE := hide hE
  clear hS hE
  have K0 : Below w.heap.size w (w.alloc (.cells #[.iface 235 (.pointer (some (a 0))), .iface 235 (.pointer (some (a 1))), .iface 235 (.pointer (some (a 2))), .iface 235 (.pointer (some (a 3))), .iface 235 (.pointer (some (a 4))), .iface 235 (.pointer (some (a 5))), .iface 235 (.pointer (some (a 6))), .iface 235 (.pointer (some (a 7))), .iface 235 (.pointer (some (a 8))), .iface 235 (.pointer (some (a 9))), .iface 235 (.pointer (some (a 10)))] 75)) := (Below.refl _ _).alloc (Nat.le_refl _) _
  have HK := hide K0
  have HC := hide (show ∀ i, i < 11 → (w.alloc (.cells #[.iface 235 (.pointer (some (a 0))), .iface 235 (.pointer (some (a 1))), .iface 235 (.pointer (some (a 2))), .iface 235 (.pointer (some (a 3))), .iface 235 (.pointer (some (a 4))), .iface 235 (.pointer (some (a 5))), .iface 235 (.pointer (some (a 6))), .iface 235 (.pointer (some (a 7))), .iface 235 (.pointer (some (a 8))), .iface 235 (.pointer (some (a 9))), .iface 235 (.pointer (some (a 10)))] 75)).cell? ⟨w.heap.size, i, none⟩ = some (.iface 235 (.pointer (some (a i)))) from fun i hi => by
    rw [Lib.cell_of_heap (heap_alloc_new w _)]
    rcases (by omega : i = 0 ∨ i = 1 ∨ i = 2 ∨ i = 3 ∨ i = 4 ∨ i = 5 ∨ i = 6 ∨ i = 7 ∨ i = 8 ∨ i = 9 ∨ i = 10) with rfl | rfl | rfl | rfl | rfl | rfl | rfl | rfl | rfl | rfl | rfl <;> rfl)
  clear K0
  go_enter Tryz.func20, Tryz.ntmps20
  go_wp2
  generalize w.alloc (.cells #[.iface 235 (.pointer (some (a 0))), .iface 235 (.pointer (some (a 1))), .iface 235 (.pointer (some (a 2))), .iface 235 (.pointer (some (a 3))), .iface 235 (.pointer (some (a 4))), .iface 235 (.pointer (some (a 5))), .iface 235 (.pointer (some (a 6))), .iface 235 (.pointer (some (a 7))), .iface 235 (.pointer (some (a 8))), .iface 235 (.pointer (some (a 9))), .iface 235 (.pointer (some (a 10)))] 75) = W at *
  clear c0 c1 c2 c3 c4 c5 c6 c7 c8 c9 c10
  go_loopg [4, 5] 11 (fun c n i wr => ∃ k : Nat, k ≤ 11 ∧ i = .int .i64 k ∧ c = 11 - k ∧ n = .int .i64 (if m < k then (m : Int) + 1 else -1) ∧ W = wr)
  case atStart => exact ⟨0, by omega, rfl, by omega, by simp, rfl⟩
  case round =>
    obtain ⟨k, hk, rfl, hc, rfl, rfl⟩ := hrel
    by_cases hlt : k < 11
    · have p1 : (k : Int) < 11 := by omega
      have p0 : (0 : Int) ≤ (k : Int) := by omega
      have cc := HC.out k hlt
      have HI := hide (HE.out W HK.out k hlt)
      by_cases hkm : k = m
      · subst hkm
        rw [decide_eq_true rfl] at HI
        rw [if_neg (Nat.lt_irrefl k)]
        go_wp2_with (go_at_call 38; refine HI.out.mono ?_; rintro e w' ⟨rfl, rfl⟩)
        go_roundg (11 - (k + 1))
        case measure => omega
        case rel => exact ⟨k + 1, by omega, by simp, rfl, by rw [if_pos (by omega)], rfl⟩
      · rw [decide_eq_false hkm] at HI
        obtain ⟨z, hz⟩ : ∃ z : Int, (if m < k then (m : Int) + 1 else -1) = z := ⟨_, rfl⟩
        have HZ := hide (show (if m < k + 1 then (m : Int) + 1 else -1) = z by
          rw [← hz]
          by_cases g : m < k
          · rw [if_pos g, if_pos (by omega)]
          · rw [if_neg g, if_neg (by omega)])
        rw [hz]
        clear hz hkm
        go_wp2_with (go_at_call 38; refine HI.out.mono ?_; rintro e w' ⟨rfl, rfl⟩)
        go_roundg (11 - (k + 1))
        case measure => omega
        case rel => exact ⟨k + 1, by omega, by simp, rfl, by rw [HZ.out], rfl⟩
    · have p1 : ¬ (k : Int) < 11 := by omega
      rw [if_pos (by omega)]
      go_wp2
      go_ret
      exact ⟨rfl, HK.out⟩

/-- .. and At and Path tell of a fault -/
theorem at_flt {w : World} {a : Nat → Addr} {v : Value} {k : Nat} (hH : Hnd w) (hF : FltIs w a v k) :
    Calls Tryz.prog 39 #[v] w fun e w' => e = .returned (.tuple #[.int .i64 k, .bool true]) ∧ Below w.heap.size w w' := by
  obtain ⟨g, rfl, hg⟩ := hF
  have hgl := (Array.getElem?_eq_some_iff.1 hg).1
  have HA := hide (as_flt (w := w) (e := ⟨g, 0, none⟩) hH)
  have HC := hide (fun (W : World) (hb : Below w.heap.size w W) => show W.cell? ⟨g, 1, none⟩ = some (.int .i64 k) by
    rw [(ubcell0 hb).1 _ _ hgl, Lib.cell_of_heap hg]; rfl)
  clear hH hg
  go_enter Tryz.func39, Tryz.ntmps39
  go_wp2_with fail
  refine HA.out.mono ?_
  rintro e w1 ⟨rfl, hb, hc⟩
  have c1 := HC.out w1 hb
  replace hb := hide hb
  go_wp2
  go_ret2
  exact ⟨rfl, hb.out⟩
theorem path_flt {w : World} {a : Nat → Addr} {v : Value} {k : Nat} (hH : Hnd w) (hF : FltIs w a v k) :
    Calls Tryz.prog 40 #[v] w fun e w' => e = .returned (.tuple #[.string ⟨#[]⟩, .bool true]) ∧ Below w.heap.size w w' := by
  obtain ⟨g, rfl, hg⟩ := hF
  have hgl := (Array.getElem?_eq_some_iff.1 hg).1
  have HA := hide (as_flt (w := w) (e := ⟨g, 0, none⟩) hH)
  have HC := hide (fun (W : World) (hb : Below w.heap.size w W) => show W.cell? ⟨g, 2, none⟩ = some (.string ⟨#[]⟩) by
    rw [(ubcell0 hb).1 _ _ hgl, Lib.cell_of_heap hg]; rfl)
  clear hH hg
  go_enter Tryz.func40, Tryz.ntmps40
  go_wp2_with fail
  refine HA.out.mono ?_
  rintro e w1 ⟨rfl, hb, hc⟩
  have c1 := HC.out w1 hb
  replace hb := hide hb
  go_wp2
  go_ret2
  exact ⟨rfl, hb.out⟩
theorem code_flt {w : World} {a : Nat → Addr} {v : Value} {k : Nat} (hS : Snt w a) (hF : FltIs w a v k) :
    Calls Tryz.prog 20 #[v] w fun e w' => e = .returned (.int .i64 3) ∧ Below w.heap.size w w' := by
  obtain ⟨g, rfl, hg⟩ := hF
  exact code_any hS (errIs_flt hS hg) (by omega)

set_option maxHeartbeats 4000000 in
set_option maxRecDepth 100000 in
theorem isAt_flt {w : World} {a : Nat → Addr} {v : Value} {k : Nat} {j : Int} (hS : Snt w a) (hH : Hnd w) (hF : FltIs w a v k) :
    Calls Tryz.prog 21 #[v, .int .i64 3, .int .i64 j] w fun e w' => e = .returned (.bool (decide ((k : Int) = j))) ∧ Below w.heap.size w w' := by
  have HS := hide hS
  have HH := hide hH
  have HF := hide hF
  clear hS hH hF
  by_cases hkj : (k : Int) = j
  · subst hkj
    rw [decide_eq_true rfl]
    go_enter Tryz.func21, Tryz.ntmps21
    go_wp2_with fail
    refine (code_flt HS.out HF.out).mono ?_
    rintro e w1 ⟨rfl, hb1⟩
    have K1 := hide hb1
    clear hb1
    go_wp2_with fail
    refine (at_flt (HH.out.below K1.out) (HF.out.below K1.out)).mono ?_
    rintro e w2 ⟨rfl, hb2⟩
    have K2 := hide (K1.out.trans (hb2.mono K1.out.size))
    clear hb2
    go_wp2_with fail
    refine (path_flt (HH.out.below K2.out) (HF.out.below K2.out)).mono ?_
    rintro e w3 ⟨rfl, hb3⟩
    have K3 := hide (K2.out.trans (hb3.mono K2.out.size))
    clear hb3
    go_wp2
    go_ret
    exact ⟨rfl, K3.out⟩
  · rw [decide_eq_false hkj]
    have q1 : ((k : Int) == j) = false := beq_eq_false_iff_ne.2 hkj
    clear hkj
    go_enter Tryz.func21, Tryz.ntmps21
    go_wp2_with fail
    refine (code_flt HS.out HF.out).mono ?_
    rintro e w1 ⟨rfl, hb1⟩
    have K1 := hide hb1
    clear hb1
    go_wp2_with fail
    refine (at_flt (HH.out.below K1.out) (HF.out.below K1.out)).mono ?_
    rintro e w2 ⟨rfl, hb2⟩
    have K2 := hide (K1.out.trans (hb2.mono K1.out.size))
    clear hb2
    go_wp2_with fail
    refine (path_flt (HH.out.below K2.out) (HF.out.below K2.out)).mono ?_
    rintro e w3 ⟨rfl, hb3⟩
    have K3 := hide (K2.out.trans (hb3.mono K2.out.size))
    clear hb3
    go_wp2
    go_ret
    exact ⟨rfl, K3.out⟩
end Go.Proofs.YtinfkoiifemjmaaGreatDoor
