import Derived.Test.YticmlelalbaalaaGreatDoorB35
import Derived.WalkKit
import Derived.LaidEql
import Derived.Stop.Asserts
import Derived.RowKitTokens
import Derived.Deep.LoopGhost
namespace Go.Proofs.YticmlelalbaalaaGreatDoor
open Go.RowKit Go.Extern.Stop Go.Stop Go.Extern
set_option linter.unusedVariables false
theorem aValueOf (t : Addr) (w : World) : (ReflectliteValue.unpack (.iface 90 (.pointer (some t)))).run Tryz.prog w
    = .ok (.agg #[.pointer (some ⟨21, 90, none⟩), .pointer (some ⟨w.heap.size, 0, none⟩), .int .u64 150]) (w.alloc (.cells #[.pointer (some t)] 90)) := by kernel_rfl
theorem aType (a : Addr) (w : World) : (ReflectliteValue.methodAny (ReflectliteValue.valueError "reflectlite.Value.Type" 0) (fun t _ _ _ => ReflectliteType.toType t) #[.agg #[.pointer (some ⟨21, 90, none⟩), .pointer (some a), .int .u64 150]]).run Tryz.prog w
    = .ok (.iface 163 (.agg #[.pointer (some ⟨21, 90, none⟩)])) w := by kernel_rfl
theorem aMethodKind (h : Value) (w : World) : (Go.method 398 163 (.agg #[h]) "Kind").run Tryz.prog w = .ok (235, h) w := by kernel_rfl
theorem aKind2 (w : World) : ((ReflectliteType.abiMethod fun t => (fun a : Nat => Value.int IntKind.u8 (a : Int)) <$> Rtype.kind t) #[.pointer (some ⟨21, 90, none⟩)]).run Tryz.prog w = .ok (.int .u8 22) w := by kernel_rfl
theorem aKind1 (w : World) : ((ReflectliteType.abiMethod fun t => (fun a : Nat => Value.int IntKind.u8 (a : Int)) <$> Rtype.kind t) #[.pointer (some ⟨21, 62, none⟩)]).run Tryz.prog w = .ok (.int .u8 22) w := by kernel_rfl
theorem arlm (z : Sem Value) (f : TypeId → Addr → Nat → Nat → Sem Value) (v : Value) :
    ReflectliteValue.method z f #[v] = (do match ← ReflectliteValue.parts v with | none => z | some (t, a, fl) => f t a fl (fl % 32)) := rfl
theorem aParts2 (a : Addr) (w : World) : (ReflectliteValue.parts (.agg #[.pointer (some ⟨21, 90, none⟩), .pointer (some a), .int .u64 150])).run Tryz.prog w = .ok (some (90, a, 150)) w := by kernel_rfl
theorem aIsNil (a p : Addr) (W : World) (ha : W.cell? a = some (.pointer (some p))) :
    (ReflectliteValue.method (ReflectliteValue.valueError "reflectlite.Value.IsNil" 0) ReflectliteValue.isNil #[.agg #[.pointer (some ⟨21, 90, none⟩), .pointer (some a), .int .u64 150]]).run Tryz.prog W = .ok (.bool false) W := by
  rw [arlm]
  simp only [Sem.run_bind, aParts2, Result.andThen]
  simp [ReflectliteValue.isNil, loadVar, isAgg, underlying, Tryz.underlying90, ha, Result.andThen]
theorem aMethodElem (h : Value) (w : World) : (Go.method 398 163 (.agg #[h]) "Elem").run Tryz.prog w = .ok (247, .agg #[h]) w := by kernel_rfl
theorem aMethodImplements (h : Value) (w : World) : (Go.method 398 163 (.agg #[h]) "Implements").run Tryz.prog w = .ok (248, .agg #[h]) w := by kernel_rfl
theorem aMethodAssignableTo (h : Value) (w : World) : (Go.method 398 163 (.agg #[h]) "AssignableTo").run Tryz.prog w = .ok (245, .agg #[h]) w := by kernel_rfl
theorem aElem (w : World) : (ReflectliteType.method ReflectliteType.elem #[.agg #[.pointer (some ⟨21, 90, none⟩)]]).run Tryz.prog w = .ok (.iface 163 (.agg #[.pointer (some ⟨21, 62, none⟩)])) w := by kernel_rfl
theorem aImplements (w : World) : (ReflectliteType.relation "Implements" ReflectliteType.implements_ #[.agg #[.pointer (some ⟨21, 62, none⟩)], .iface 163 (.agg #[.pointer (some ⟨21, 36, none⟩)])]).run Tryz.prog w = .ok (.bool true) w := by kernel_rfl
theorem aTypeOf (v : Value) (w : World) : (ReflectliteType.typeOf #[.iface 62 v]).run Tryz.prog w = .ok (.iface 163 (.agg #[.pointer (some ⟨21, 62, none⟩)])) w := by kernel_rfl
theorem aAssignable (w : World) : (ReflectliteType.relation "AssignableTo" ReflectliteType.assignableTo #[.agg #[.pointer (some ⟨21, 62, none⟩)], .iface 163 (.agg #[.pointer (some ⟨21, 62, none⟩)])]).run Tryz.prog w = .ok (.bool true) w := by kernel_rfl
theorem aValueOf1 (e : Addr) (w : World) : (ReflectliteValue.unpack (.iface 62 (.pointer (some e)))).run Tryz.prog w
    = .ok (.agg #[.pointer (some ⟨21, 62, none⟩), .pointer (some ⟨w.heap.size, 0, none⟩), .int .u64 150]) (w.alloc (.cells #[.pointer (some e)] 62)) := by kernel_rfl
theorem aElemOf (w : World) : (Rtype.elem? 90).run Tryz.prog w = .ok (some 62) w := by kernel_rfl
theorem aMk (p : Addr) (w : World) : (ReflectliteValue.mk 62 p ReflectliteValue.flagAddr).run Tryz.prog w = .ok (.agg #[.pointer (some ⟨21, 62, none⟩), .pointer (some p), .int .u64 406]) w := by kernel_rfl
theorem aElemV (a p : Addr) (W : World) (ha : W.cell? a = some (.pointer (some p))) :
    (ReflectliteValue.method (ReflectliteValue.valueError "reflectlite.Value.Elem" 0) ReflectliteValue.elem #[.agg #[.pointer (some ⟨21, 90, none⟩), .pointer (some a), .int .u64 150]]).run Tryz.prog W
      = .ok (.agg #[.pointer (some ⟨21, 62, none⟩), .pointer (some p), .int .u64 406]) W := by
  rw [arlm]
  simp only [Sem.run_bind, aParts2, Result.andThen]
  simp [ReflectliteValue.elem, loadVar, isAgg, underlying, Tryz.underlying90, ha, Result.andThen, aElemOf, aMk]
theorem aParts1a (a : Addr) (w : World) : (ReflectliteValue.parts (.agg #[.pointer (some ⟨21, 62, none⟩), .pointer (some a), .int .u64 406])).run Tryz.prog w = .ok (some (62, a, 406)) w := by kernel_rfl
theorem aParts1 (a : Addr) (w : World) : (ReflectliteValue.parts (.agg #[.pointer (some ⟨21, 62, none⟩), .pointer (some a), .int .u64 150])).run Tryz.prog w = .ok (some (62, a, 150)) w := by kernel_rfl
theorem aDirect (w : World) : (Rtype.directlyAssignable 62 62).run Tryz.prog w = .ok true w := by kernel_rfl
theorem aSet (ta b e : Addr) (old : Value) (W : World) (hb : W.cell? b = some (.pointer (some e))) (ht : W.cell? ta = some old) (hf : W.frozen? ta = false) :
    (ReflectliteValue.set #[.agg #[.pointer (some ⟨21, 62, none⟩), .pointer (some ta), .int .u64 406], .agg #[.pointer (some ⟨21, 62, none⟩), .pointer (some b), .int .u64 150]]).run Tryz.prog W
      = .ok (.tuple #[]) (W.setCell ta (.pointer (some e))) := by
  show (Sem.run Tryz.prog (bind (ReflectliteValue.parts _) _) W) = _
  rw [Sem.run_bind]
  erw [aParts1a]
  simp only [Result.andThen]
  rw [Sem.run_bind]
  erw [aParts1]
  simp only [Result.andThen]
  simp [ReflectliteValue.flagAddr, loadVar, isAgg, underlying, Tryz.underlying62, hb, Result.andThen, aDirect, storeVar, Value.cells, storeCells, Addr.add]
  rw [run_store Tryz.prog W ta _ _ (by rfl)]
  simp [ht, hf]
set_option maxHeartbeats 4000000 in
set_option maxRecDepth 100000 in
theorem as_flt {w : World} {e : Addr} (hg : w.cell? ⟨12, 0, none⟩ = some (.iface 163 (.agg #[.pointer (some ⟨21, 36, none⟩)]))) :
    Calls Tryz.prog 61 #[.iface 62 (.pointer (some e)), .iface 90 (.pointer (some ⟨w.heap.size, 0, none⟩))] (w.alloc (.cells #[.pointer none] 62)) fun ev w' => ev = .returned (.bool true) ∧ Below w.heap.size w w' ∧ w'.cell? ⟨w.heap.size, 0, none⟩ = some (.pointer (some e)) := by
  have hgl : 12 < w.heap.size := by
    rcases Nat.lt_or_ge 12 w.heap.size with h | h
    · exact h
    · simp [World.cell?, Array.getElem?_eq_none h] at hg
  have hB0 : Below w.heap.size w (w.alloc (.cells #[.pointer none] 62)) := (Below.refl _ _).alloc (Nat.le_refl _) _
  obtain ⟨t, ht⟩ : ∃ t : Addr, t = ⟨w.heap.size, 0, none⟩ := ⟨_, rfl⟩
  have htb : t.block = w.heap.size := by rw [ht]
  have ht0 : (w.alloc (.cells #[.pointer none] 62)).cell? t = some (.pointer none) := by rw [ht]; simp
  have hf0 : (w.alloc (.cells #[.pointer none] 62)).frozen? t = false := by rw [ht]; exact Lib.frozen_of_heap (heap_alloc_new w _) 0
  have hz : (w.alloc (.cells #[.pointer none] 62)).heap.size = w.heap.size + 1 := by simp
  have hg0 : (w.alloc (.cells #[.pointer none] 62)).cell? ⟨12, 0, none⟩ = some (.iface 163 (.agg #[.pointer (some ⟨21, 36, none⟩)])) := by
    rw [World.cell?_alloc_lt _ _ ⟨12, 0, none⟩ hgl]; exact hg
  rw [← ht]
  have HT := hide ht
  have HB0 := hide hB0
  clear ht hB0 hg
  generalize w.alloc (.cells #[.pointer none] 62) = W at *
  have HZ := hide hz
  have h6 := @run_callFunc_extern Tryz.prog 102 _ (fun args => ReflectliteValue.unpack (args.getD 0 (.tuple #[]))) Tryz.func102 (by kernel_rfl) (by kernel_rfl) (by kernel_rfl) (by kernel_rfl)
  have h7 := @run_callFunc_extern Tryz.prog 103 _ (ReflectliteValue.methodAny (ReflectliteValue.valueError "reflectlite.Value.Type" 0) (fun t _ _ _ => ReflectliteType.toType t)) Tryz.func103 (by kernel_rfl) (by kernel_rfl) (by kernel_rfl) (by kernel_rfl)
  have h8 := @run_callFunc_extern Tryz.prog 104 _ (ReflectliteValue.method (ReflectliteValue.valueError "reflectlite.Value.IsNil" 0) ReflectliteValue.isNil) Tryz.func104 (by kernel_rfl) (by kernel_rfl) (by kernel_rfl) (by kernel_rfl)
  have h27 := @run_callFunc_extern Tryz.prog 235 _ (ReflectliteType.abiMethod fun t => do pure (.int .u8 (← Rtype.kind t))) Tryz.func235 (by kernel_rfl) (by kernel_rfl) (by kernel_rfl) (by kernel_rfl)
  have h37 := @run_callFunc_extern Tryz.prog 247 _ (ReflectliteType.method ReflectliteType.elem) Tryz.func247 (by kernel_rfl) (by kernel_rfl) (by kernel_rfl) (by kernel_rfl)
  have h38 := @run_callFunc_extern Tryz.prog 248 _ (ReflectliteType.relation "Implements" ReflectliteType.implements_) Tryz.func248 (by kernel_rfl) (by kernel_rfl) (by kernel_rfl) (by kernel_rfl)
  have h10 := @run_callFunc_extern Tryz.prog 86 _ ReflectliteType.typeOf Tryz.func86 (by kernel_rfl) (by kernel_rfl) (by kernel_rfl) (by kernel_rfl)
  have h35 := @run_callFunc_extern Tryz.prog 245 _ (ReflectliteType.relation "AssignableTo" ReflectliteType.assignableTo) Tryz.func245 (by kernel_rfl) (by kernel_rfl) (by kernel_rfl) (by kernel_rfl)
  have h11 := @run_callFunc_extern Tryz.prog 135 _ (ReflectliteValue.method (ReflectliteValue.valueError "reflectlite.Value.Elem" 0) ReflectliteValue.elem) Tryz.func135 (by kernel_rfl) (by kernel_rfl) (by kernel_rfl) (by kernel_rfl)
  have h12 := @run_callFunc_extern Tryz.prog 136 _ ReflectliteValue.set Tryz.func136 (by kernel_rfl) (by kernel_rfl) (by kernel_rfl) (by kernel_rfl)
  have tO := aTypeOf
  have mA := aMethodAssignableTo
  have a25 := aAssignable
  have v25 := aValueOf1
  have f6 := aValueOf
  have f7 := aType
  have mK := aMethodKind
  have mE := aMethodElem
  have mI := aMethodImplements
  have k27 := aKind2
  have k25 := aKind1
  have e27 := aElem
  have i25 := aImplements
  have n8 := aIsNil ⟨W.heap.size, 0, none⟩ t ((W.alloc (.cells #[.pointer (some t)] 90)).alloc (.cells #[.pointer (some ⟨21, 90, none⟩), .pointer (some ⟨W.heap.size, 0, none⟩), .int .u64 150] 143)) (by simp)
  have hlt : 12 < W.heap.size := by omega
  have hg2 : ((W.alloc (.cells #[.pointer (some t)] 90)).alloc (.cells #[.pointer (some ⟨21, 90, none⟩), .pointer (some ⟨W.heap.size, 0, none⟩), .int .u64 150] 143)).cell? ⟨12, 0, none⟩ = some (.iface 163 (.agg #[.pointer (some ⟨21, 36, none⟩)])) := by
    rw [World.cell?_alloc_lt _ _ ⟨12, 0, none⟩ (by simp; omega), World.cell?_alloc_lt _ _ ⟨12, 0, none⟩ hlt]; exact hg0
  have htl : t.block < W.heap.size := by omega
  have el := aElemV ⟨W.heap.size, 0, none⟩ t (((W.alloc (.cells #[.pointer (some t)] 90)).alloc (.cells #[.pointer (some ⟨21, 90, none⟩), .pointer (some ⟨W.heap.size, 0, none⟩), .int .u64 150] 143)).alloc (.cells #[.pointer (some ⟨21, 90, none⟩), .pointer (some ⟨W.heap.size, 0, none⟩), .int .u64 150] 143)) (by rw [World.cell?_alloc_lt _ _ ⟨W.heap.size, 0, none⟩ (by simp; omega)]; simp)
  have st := aSet t ⟨W.heap.size + 1 + 1 + 1, 0, none⟩ e (.pointer none) ((((W.alloc (.cells #[.pointer (some t)] 90)).alloc (.cells #[.pointer (some ⟨21, 90, none⟩), .pointer (some ⟨W.heap.size, 0, none⟩), .int .u64 150] 143)).alloc (.cells #[.pointer (some ⟨21, 90, none⟩), .pointer (some ⟨W.heap.size, 0, none⟩), .int .u64 150] 143)).alloc (.cells #[.pointer (some e)] 62))
    (by rw [World.cell?_alloc_at _ _ _ _ (by simp)]; rfl)
    (by rw [World.cell?_alloc_lt _ _ t (by simp; omega), World.cell?_alloc_lt _ _ t (by simp; omega), World.cell?_alloc_lt _ _ t (by simp; omega), World.cell?_alloc_lt _ _ t htl]; exact ht0)
    (by rw [World.frozen?_alloc_old _ _ t (by simp; omega), World.frozen?_alloc_old _ _ t (by simp; omega), World.frozen?_alloc_old _ _ t (by simp; omega), World.frozen?_alloc_old _ _ t (Nat.ne_of_lt htl)]; exact hf0)
  have HTB := hide htb
  clear hz htb
  go_enter Tryz.func61, Tryz.ntmps61
  go_wp2
  refine wp_loop_rounds 1 ?_
  rw [rounds_succ]
  go_wp2
  go_ret
  refine ⟨rfl, ?_, ?_⟩
  · have hz := HZ.out
    refine Below.setCell ?_ (Nat.le_of_eq HTB.out.symm) _
    refine Below.alloc (Below.alloc (Below.alloc (Below.alloc HB0.out (by omega) _) (by simp; omega) _) (by simp; omega) _) (by simp; omega) _
  · have hz := HZ.out
    have hl : t.block < ((((W.alloc (.cells #[.pointer (some t)] 90)).alloc (.cells #[.pointer (some ⟨21, 90, none⟩), .pointer (some ⟨W.heap.size, 0, none⟩), .int .u64 150] 143)).alloc (.cells #[.pointer (some ⟨21, 90, none⟩), .pointer (some ⟨W.heap.size, 0, none⟩), .int .u64 150] 143)).alloc (.cells #[.pointer (some e)] 62)).heap.size := by simp; omega
    have hc : ((((W.alloc (.cells #[.pointer (some t)] 90)).alloc (.cells #[.pointer (some ⟨21, 90, none⟩), .pointer (some ⟨W.heap.size, 0, none⟩), .int .u64 150] 143)).alloc (.cells #[.pointer (some ⟨21, 90, none⟩), .pointer (some ⟨W.heap.size, 0, none⟩), .int .u64 150] 143)).alloc (.cells #[.pointer (some e)] 62)).cell? t = some (.pointer none) := by rw [World.cell?_alloc_lt _ _ t (by simp; omega), World.cell?_alloc_lt _ _ t (by simp; omega), World.cell?_alloc_lt _ _ t (by simp; omega), World.cell?_alloc_lt _ _ t htl]; exact ht0
    first | exact World.cell?_setCell_same _ _ _ hc | exact World.cell?_setCell_same _ _ hc | exact World.cell?_setCell_same _ hc
noncomputable def eCmpF : Array Value → Sem Value := (Extern.find Tryz.f246).getD (fun _ => pure (.bool false))
theorem eCmpAt : Extern.find Tryz.f246 = some eCmpF := by kernel_rfl
theorem eTypeOf (v : Value) (w : World) : (Extern.ReflectliteType.typeOf #[.iface 267 v]).run Tryz.prog w = .ok (.iface 163 (.agg #[.pointer (some ⟨21, 267, none⟩)])) w := by kernel_rfl
theorem eComparable (w : World) : (eCmpF #[.agg #[.pointer (some ⟨21, 267, none⟩)]]).run Tryz.prog w = .ok (.bool true) w := by kernel_rfl
theorem eMethodComparable (v : Value) (w : World) : (Go.method 398 163 v "Comparable").run Tryz.prog w = .ok (246, v) w := by kernel_rfl
theorem eComp : (Tryz.prog.info? 267).map (·.comparable) = some true := by kernel_rfl
theorem eSize : (Tryz.prog.info? 286).map (·.size) = some 1 := by kernel_rfl
theorem eNoIsE (v : Value) (xT : TypeId) (w : World) : (Instr.typeAssert (.iface 267 v) xT 165 true).run Tryz.prog w = .ok (.tuple #[.nilIface, .bool false]) w := run_typeAssert_lacksB Tryz.underlying165 (by kernel_rfl) (by kernel_rfl) v xT w
theorem eNoUnwrapE (v : Value) (xT : TypeId) (w : World) : (Instr.typeAssert (.iface 267 v) xT 168 true).run Tryz.prog w = .ok (.tuple #[.nilIface, .bool false]) w := run_typeAssert_lacksB Tryz.underlying168 (by kernel_rfl) (by kernel_rfl) v xT w
theorem eNoUnwrapsE (v : Value) (xT : TypeId) (w : World) : (Instr.typeAssert (.iface 267 v) xT 170 true).run Tryz.prog w = .ok (.tuple #[.nilIface, .bool false]) w := run_typeAssert_lacksB Tryz.underlying170 (by kernel_rfl) (by kernel_rfl) v xT w
theorem eNoIsF (v : Value) (xT : TypeId) (w : World) : (Instr.typeAssert (.iface 62 v) xT 165 true).run Tryz.prog w = .ok (.tuple #[.nilIface, .bool false]) w := run_typeAssert_lacksB Tryz.underlying165 (by kernel_rfl) (by kernel_rfl) v xT w
theorem eUnwrapF (v : Value) (xT : TypeId) (w : World) : (Instr.typeAssert (.iface 62 v) xT 168 true).run Tryz.prog w = .ok (.tuple #[.iface 62 v, .bool true]) w := run_typeAssert_hasB Tryz.underlying168 (by kernel_rfl) v xT w
theorem eMethodUnwrap (v : Value) (w : World) : (Go.method 398 62 v "Unwrap").run Tryz.prog w = .ok (239, v) w := by kernel_rfl
set_option maxRecDepth 100000 in
theorem is_wrap_same {w : World} {g : Nat} {b : Addr} (h1 : w.cell? ⟨g, 0, none⟩ = some (.iface 267 (.pointer (some b)))) :
    Calls Tryz.prog 44 #[.iface 62 (.pointer (some ⟨g, 0, none⟩)), .iface 267 (.pointer (some b))] w fun e w' => e = .returned (.bool true) ∧ w' = w := by
  obtain ⟨i, hi, hcmp⟩ := Option.map_eq_some_iff.1 eComp
  obtain ⟨j, hj, hjs⟩ := Option.map_eq_some_iff.1 eSize
  have h8 := @run_callFunc_extern Tryz.prog 86 _ Extern.ReflectliteType.typeOf Tryz.func86 (by kernel_rfl) (by kernel_rfl) (by kernel_rfl) (by kernel_rfl)
  have h32 := @run_callFunc_extern Tryz.prog 246 _ eCmpF Tryz.func246 (by kernel_rfl) (by kernel_rfl) (by kernel_rfl) eCmpAt
  have tT := eTypeOf
  have cT := eComparable
  have mR := eMethodComparable
  have nW := eNoIsF
  have uW := eUnwrapF
  have mU := eMethodUnwrap
  have heq := run_eql_iface_ptr_same (P := Tryz.prog) w b Tryz.underlying36 Tryz.underlying267 hi hcmp hj
  have hty := run_eql_iface_types (P := Tryz.prog) 62 267 (.pointer (some ⟨g, 0, none⟩)) (.pointer (some b)) Tryz.underlying36 (by decide) w
  go_enter Tryz.func44, Tryz.ntmps44
  go_wp2
  refine wp_loop_rounds 2 ?_
  rw [rounds_succ]
  go_wp2
  rw [rounds_succ]
  go_wp2
  go_ret
  exact ⟨rfl, rfl⟩
set_option maxRecDepth 100000 in
theorem is_wrap_other {w : World} {g : Nat} {a b : Addr} {ca cb : Array Value} {ta tb : TypeId} (h1 : w.cell? ⟨g, 0, none⟩ = some (.iface 267 (.pointer (some a)))) (hne : a ≠ b) (ha : w.heap[a.block]? = some (.cells ca ta (0, 0))) (hb : w.heap[b.block]? = some (.cells cb tb (0, 0))) :
    Calls Tryz.prog 44 #[.iface 62 (.pointer (some ⟨g, 0, none⟩)), .iface 267 (.pointer (some b))] w fun e w' => e = .returned (.bool false) ∧ w' = w := by
  obtain ⟨i, hi, hcmp⟩ := Option.map_eq_some_iff.1 eComp
  obtain ⟨j, hj, hjs⟩ := Option.map_eq_some_iff.1 eSize
  have h8 := @run_callFunc_extern Tryz.prog 86 _ Extern.ReflectliteType.typeOf Tryz.func86 (by kernel_rfl) (by kernel_rfl) (by kernel_rfl) (by kernel_rfl)
  have h32 := @run_callFunc_extern Tryz.prog 246 _ eCmpF Tryz.func246 (by kernel_rfl) (by kernel_rfl) (by kernel_rfl) eCmpAt
  have tT := eTypeOf
  have cT := eComparable
  have mR := eMethodComparable
  have nE := eNoIsE
  have uE := eNoUnwrapE
  have vE := eNoUnwrapsE
  have nW := eNoIsF
  have uW := eUnwrapF
  have mU := eMethodUnwrap
  have heq := run_eql_iface_ptr_other (P := Tryz.prog) w Tryz.underlying36 Tryz.underlying267 hi hcmp hj (by rw [hjs]; decide) hne ha hb
  have hty := run_eql_iface_types (P := Tryz.prog) 62 267 (.pointer (some ⟨g, 0, none⟩)) (.pointer (some b)) Tryz.underlying36 (by decide) w
  clear hne ha hb
  go_enter Tryz.func44, Tryz.ntmps44
  go_wp2
  refine wp_loop_rounds 2 ?_
  rw [rounds_succ]
  go_wp2
  rw [rounds_succ]
  go_wp2
  go_ret
  exact ⟨rfl, rfl⟩
theorem errIs_flt {w : World} {a : Nat → Addr} (hS : Snt w a) {g m : Nat} {k : Int} {s : ByteArray} (hm : m < 12) (hg : FltAt w g (.iface 267 (.pointer (some (a m)))) k s) : ErrIs w a 62 (.pointer (some ⟨g, 0, none⟩)) (fun i => decide (i = m)) := by
  intro w' hb i hi
  have hS' := hS.below hb
  have hc : w'.cell? ⟨g, 0, none⟩ = some (.iface 267 (.pointer (some (a m)))) := by rw [Lib.cell_of_heap (hg.below hb)]; rfl
  by_cases h : i = m
  · subst h; simp only [decide_true]; exact (is_wrap_same hc).mono fun e w'' ⟨h1, h2⟩ => ⟨h1, h2 ▸ Below.refl _ _⟩
  · simp only [h, decide_false]
    obtain ⟨c, t, h1⟩ := hS'.obj m hm
    obtain ⟨c2, t2, h2⟩ := hS'.obj i (by omega)
    exact (is_wrap_other hc (hS.ne m i hm (by omega) (fun e => h e.symm)) h1 h2).mono fun e w'' ⟨h1, h2⟩ => ⟨h1, h2 ▸ Below.refl _ _⟩
theorem asIs_flt {w : World} {g : Nat} (hH : Hnd w) : AsIs w 62 (.pointer (some ⟨g, 0, none⟩)) (some (some ⟨g, 0, none⟩)) :=
  fun w' hb => as_flt (hH.below hb)
end Go.Proofs.YticmlelalbaalaaGreatDoor
namespace Go.Proofs.YticmlelalbaalaaGreatDoor
open Go.RowKit
set_option linter.unusedVariables false
def hcB (b : Nat → Bool) : Nat → Int
  | 0 => -1
  | k + 1 => if hcB b k = -2 then -2 else if b k then (if hcB b k = -1 then (k : Int) + 1 else -2) else hcB b k
theorem hcB_two {b : Nat → Bool} {k : Nat} (h : hcB b k = -2) : ∀ j, k ≤ j → hcB b j = -2 := by
  intro j hj
  induction j with
  | zero => rw [← Nat.le_zero.1 hj]; exact h
  | succ j ih =>
    rcases Nat.lt_or_ge k (j + 1) with g | g
    · rw [hcB, if_pos (ih (by omega))]
    · rw [← Nat.le_antisymm hj g]; exact h
theorem hcB_range (b : Nat → Bool) : ∀ k, (hcB b k = -1 ∧ leastB b k = -1) ∨ (hcB b k = -2 ∧ leastB b k ≠ -1) ∨ (0 < hcB b k ∧ hcB b k ≤ k ∧ leastB b k = hcB b k) := by
  intro k
  induction k with
  | zero => exact Or.inl ⟨rfl, rfl⟩
  | succ k ih =>
    have e1 : hcB b (k + 1) = if hcB b k = -2 then -2 else if b k then (if hcB b k = -1 then (k : Int) + 1 else -2) else hcB b k := rfl
    have e2 : leastB b (k + 1) = if leastB b k = -1 then (if b k then (k : Int) + 1 else -1) else leastB b k := rfl
    by_cases g : b k = true
    · simp only [g, if_true] at e1 e2
      split at e1 <;> split at e2 <;> (try split at e1) <;> omega
    · simp only [g] at e1 e2
      split at e1 <;> split at e2 <;> (try simp at e1 e2) <;> omega
theorem hcB_dec {m k : Nat} : hcB (fun i => decide (i = m)) k = if m < k then (m : Int) + 1 else -1 := by
  induction k with
  | zero => rfl
  | succ k ih =>
    have e1 : hcB (fun i => decide (i = m)) (k + 1) = if hcB (fun i => decide (i = m)) k = -2 then -2 else if decide (k = m) then (if hcB (fun i => decide (i = m)) k = -1 then (k : Int) + 1 else -2) else hcB (fun i => decide (i = m)) k := rfl
    rw [e1, ih]
    simp only [decide_eq_true_eq]
    (repeat' split) <;> omega
theorem hcode_nil {w : World} : Calls Tryz.prog 16 #[.nilIface] w fun e w' => e = .returned (.int .i64 0) ∧ w' = w := by
  go_enter Tryz.func16, Tryz.ntmps16
  go_wp2
  go_ret
  exact ⟨rfl, rfl⟩
set_option maxHeartbeats 4000000 in
set_option maxRecDepth 100000 in
theorem hcode_any {w : World} {a : Nat → Addr} {u : TypeId} {x : Value} {b : Nat → Bool} (hS : Snt w a) (hE : ErrIs w a u x b) :
    Calls Tryz.prog 16 #[.iface u x] w fun e w' => e = .returned (.int .i64 (hcB b 11)) ∧ Below w.heap.size w w' := by
  have c0 := hS.cell 0 (by omega); have c1 := hS.cell 1 (by omega); have c2 := hS.cell 2 (by omega); have c3 := hS.cell 3 (by omega)
  have c4 := hS.cell 4 (by omega); have c5 := hS.cell 5 (by omega); have c6 := hS.cell 6 (by omega); have c7 := hS.cell 7 (by omega)
  have c8 := hS.cell 8 (by omega); have c9 := hS.cell 9 (by omega); have c10 := hS.cell 10 (by omega)
  simp only [sG, List.getD_cons_zero, List.getD_cons_succ] at c0 c1 c2 c3 c4 c5 c6 c7 c8 c9 c10
  have HE := hide hE
  clear hS hE
  have HK := hide ((Below.refl w.heap.size w).alloc (Nat.le_refl _) (.cells #[.iface 267 (.pointer (some (a 0))), .iface 267 (.pointer (some (a 1))), .iface 267 (.pointer (some (a 2))), .iface 267 (.pointer (some (a 3))), .iface 267 (.pointer (some (a 4))), .iface 267 (.pointer (some (a 5))), .iface 267 (.pointer (some (a 6))), .iface 267 (.pointer (some (a 7))), .iface 267 (.pointer (some (a 8))), .iface 267 (.pointer (some (a 9))), .iface 267 (.pointer (some (a 10)))] 74))
  have HC := hide (show ∀ i, i < 11 → (w.alloc (.cells #[.iface 267 (.pointer (some (a 0))), .iface 267 (.pointer (some (a 1))), .iface 267 (.pointer (some (a 2))), .iface 267 (.pointer (some (a 3))), .iface 267 (.pointer (some (a 4))), .iface 267 (.pointer (some (a 5))), .iface 267 (.pointer (some (a 6))), .iface 267 (.pointer (some (a 7))), .iface 267 (.pointer (some (a 8))), .iface 267 (.pointer (some (a 9))), .iface 267 (.pointer (some (a 10)))] 74)).cell? ⟨w.heap.size, i, none⟩ = some (.iface 267 (.pointer (some (a i)))) from fun i hi => by
    rw [Lib.cell_of_heap (heap_alloc_new w _)]
    rcases (by omega : i = 0 ∨ i = 1 ∨ i = 2 ∨ i = 3 ∨ i = 4 ∨ i = 5 ∨ i = 6 ∨ i = 7 ∨ i = 8 ∨ i = 9 ∨ i = 10) with rfl | rfl | rfl | rfl | rfl | rfl | rfl | rfl | rfl | rfl | rfl <;> rfl)
  have HZ := hide (show w.heap.size < (w.alloc (.cells #[.iface 267 (.pointer (some (a 0))), .iface 267 (.pointer (some (a 1))), .iface 267 (.pointer (some (a 2))), .iface 267 (.pointer (some (a 3))), .iface 267 (.pointer (some (a 4))), .iface 267 (.pointer (some (a 5))), .iface 267 (.pointer (some (a 6))), .iface 267 (.pointer (some (a 7))), .iface 267 (.pointer (some (a 8))), .iface 267 (.pointer (some (a 9))), .iface 267 (.pointer (some (a 10)))] 74)).heap.size from by simp)
  go_enter Tryz.func16, Tryz.ntmps16
  go_wp2
  generalize w.alloc (.cells #[.iface 267 (.pointer (some (a 0))), .iface 267 (.pointer (some (a 1))), .iface 267 (.pointer (some (a 2))), .iface 267 (.pointer (some (a 3))), .iface 267 (.pointer (some (a 4))), .iface 267 (.pointer (some (a 5))), .iface 267 (.pointer (some (a 6))), .iface 267 (.pointer (some (a 7))), .iface 267 (.pointer (some (a 8))), .iface 267 (.pointer (some (a 9))), .iface 267 (.pointer (some (a 10)))] 74) = W at *
  clear c0 c1 c2 c3 c4 c5 c6 c7 c8 c9 c10
  go_loopg [4, 5] 11 (fun c n i wr => ∃ k : Nat, k ≤ 11 ∧ i = .int .i64 k ∧ c = 11 - k ∧ n = .int .i64 (hcB b k) ∧ hcB b k ≠ -2 ∧ Hid (Below W.heap.size W wr))
  case atStart => exact ⟨0, by omega, rfl, by omega, rfl, by show (-1 : Int) ≠ -2; decide, hide (Below.refl _ _)⟩
  case round =>
    obtain ⟨k, hk, rfl, hc, rfl, hn2, HB⟩ := hrel
    by_cases hlt : k < 11
    · have p1 : (k : Int) < 11 := by omega
      have p0 : (0 : Int) ≤ (k : Int) := by omega
      have KW := hide (HK.out.trans (HB.out.mono HK.out.size))
      have cc : wr.cell? ⟨w.heap.size, k, none⟩ = some (.iface 267 (.pointer (some (a k)))) := by
        rw [(fubcell0 HB.out).1 _ _ HZ.out]; exact HC.out k hlt
      have HI := hide (HE.out wr KW.out k hlt)
      obtain ⟨z, hz⟩ : ∃ z, hcB b k = z := ⟨_, rfl⟩
      have hr := hcB_range b k
      have hs : hcB b (k + 1) = if b k then (if z = -1 then (k : Int) + 1 else -2) else z := by rw [hcB, if_neg hn2, hz]
      rw [hz] at hr hn2 ⊢
      replace hs := hide hs
      clear hz
      go_wp2_with fail
      refine HI.out.mono ?_
      rintro e w2 ⟨rfl, hb2⟩
      have K2 := hide (HB.out.trans (hb2.mono HB.out.size))
      have K3 := hide (KW.out.trans (hb2.mono KW.out.size))
      clear hb2 HI cc
      cases hbk : b k with
      | true =>
        by_cases hz1 : z = -1
        · subst hz1
          go_wp2
          go_roundg (11 - (k + 1))
          case measure => omega
          case rel =>
            have e1 : hcB b (k + 1) = (k : Int) + 1 := by rw [hs.out, hbk]; rfl
            exact ⟨k + 1, by omega, by simp, rfl, by rw [e1], by rw [e1]; omega, K2⟩
        · have p2 : (0 : Int) < z := by rcases hr with ⟨h, _⟩ | ⟨h, _⟩ | ⟨h, _, _⟩ <;> omega
          have e1 : hcB b (k + 1) = -2 := by rw [hs.out, hbk, if_pos rfl, if_neg hz1]
          have e2 := hide (hcB_two e1 11 (by omega))
          clear hr hs e1 hz1 hn2
          go_wp2
          go_ret
          exact ⟨by rw [e2.out]; rfl, K3.out⟩
      | false =>
        clear hr
        go_wp2
        go_roundg (11 - (k + 1))
        case measure => omega
        case rel =>
          have e1 : hcB b (k + 1) = z := by rw [hs.out, hbk]; rfl
          exact ⟨k + 1, by omega, by simp, rfl, by rw [e1], by rw [e1]; exact hn2, K2⟩
    · have p1 : ¬ (k : Int) < 11 := by omega
      obtain rfl : k = 11 := by omega
      go_wp2
      go_ret
      exact ⟨rfl, HK.out.trans (HB.out.mono HK.out.size)⟩
def atV (o : Option (Int × ByteArray)) : Value := match o with
  | none => .tuple #[.int .i64 0, .bool false]
  | some q => .tuple #[.int .i64 q.1, .bool true]
def pathV (o : Option (Int × ByteArray)) : Value := match o with
  | none => .tuple #[.string ⟨#[]⟩, .bool false]
  | some q => .tuple #[.string q.2, .bool true]
theorem hat_any {w : World} {u : TypeId} {x : Value} {r : Option (Option Addr)} {o : Option (Int × ByteArray)} (hA : AsIs w u x r) (hT : Told w r o) :
    Calls Tryz.prog 45 #[.iface u x] w fun e w' => e = .returned (atV o) ∧ Below w.heap.size w w' := by
  have HA := hide (hA w (Below.refl _ _))
  have HT := hide hT
  clear hA hT
  go_enter Tryz.func45, Tryz.ntmps45
  go_wp2_with fail
  refine HA.out.mono ?_
  rintro e w1 ⟨rfl, hb, hc⟩
  have T1 := HT.out.below hb
  replace hb := hide hb
  clear HA HT
  rcases T1 with ⟨rfl, rfl | rfl⟩ | ⟨g, ev, k, s, rfl, rfl, hg, hev⟩
  · simp only [Option.isSome_none, Option.getD_none] at hc ⊢
    go_wp2
    go_ret2
    exact ⟨rfl, hb.out⟩
  · simp only [Option.isSome_some, Option.getD_some] at hc ⊢
    go_wp2
    go_ret2
    exact ⟨rfl, hb.out⟩
  · simp only [Option.isSome_some, Option.getD_some] at hc ⊢
    have c1 : w1.cell? ⟨g, 1, none⟩ = some (.int .i64 k) := by rw [Lib.cell_of_heap hg]; rfl
    clear hg hev
    go_wp2
    go_ret2
    exact ⟨rfl, hb.out⟩
theorem hpath_any {w : World} {u : TypeId} {x : Value} {r : Option (Option Addr)} {o : Option (Int × ByteArray)} (hA : AsIs w u x r) (hT : Told w r o) :
    Calls Tryz.prog 27 #[.iface u x] w fun e w' => e = .returned (pathV o) ∧ Below w.heap.size w w' := by
  have HA := hide (hA w (Below.refl _ _))
  have HT := hide hT
  clear hA hT
  go_enter Tryz.func27, Tryz.ntmps27
  go_wp2_with fail
  refine HA.out.mono ?_
  rintro e w1 ⟨rfl, hb, hc⟩
  have T1 := HT.out.below hb
  replace hb := hide hb
  clear HA HT
  rcases T1 with ⟨rfl, rfl | rfl⟩ | ⟨g, ev, k, s, rfl, rfl, hg, hev⟩
  · simp only [Option.isSome_none, Option.getD_none] at hc ⊢
    go_wp2
    go_ret2
    exact ⟨rfl, hb.out⟩
  · simp only [Option.isSome_some, Option.getD_some] at hc ⊢
    go_wp2
    go_ret2
    exact ⟨rfl, hb.out⟩
  · simp only [Option.isSome_some, Option.getD_some] at hc ⊢
    have c1 : w1.cell? ⟨g, 2, none⟩ = some (.string s) := by rw [Lib.cell_of_heap hg]; rfl
    clear hg hev
    go_wp2
    go_ret2
    exact ⟨rfl, hb.out⟩
end Go.Proofs.YticmlelalbaalaaGreatDoor
