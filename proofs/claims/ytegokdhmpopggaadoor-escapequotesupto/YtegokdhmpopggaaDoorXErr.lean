/- errors.Is at an *api.Fault around a sentinel, and at a sentinel; the laws' Code, At, Path, Is, IsAt -/
import Derived.Test.YtegokdhmpopggaaDoorXAs
namespace Go.Proofs.YtegokdhmpopggaaDoor
open Go.RowKit Go.Extern.Stop Go.Stop Go.Extern
set_option linter.unusedVariables false

/-- the entry of Comparable -/
noncomputable def eCmpF : Array Value → Sem Value := (Extern.find Tryd.f101).getD (fun _ => pure (.bool false))
theorem eCmpAt : Extern.find Tryd.f101 = some eCmpF := by kernel_rfl
theorem eTypeOf (v : Value) (w : World) : (Extern.ReflectliteType.typeOf #[.iface 137 v]).run Tryd.prog w = .ok (.iface 112 (.agg #[.pointer (some ⟨14, 137, none⟩)])) w := by kernel_rfl
theorem eComparable (w : World) : (eCmpF #[.agg #[.pointer (some ⟨14, 137, none⟩)]]).run Tryd.prog w = .ok (.bool true) w := by kernel_rfl
theorem eMethodComparable (v : Value) (w : World) : (Go.method 268 112 v "Comparable").run Tryd.prog w = .ok (101, v) w := by kernel_rfl
theorem eComp : (Tryd.prog.info? 137).map (·.comparable) = some true := by kernel_rfl
theorem eSize : (Tryd.prog.info? 157).map (·.size) = some 1 := by kernel_rfl
theorem eNoIsE (v : Value) (xT : TypeId) (w : World) : (Instr.typeAssert (.iface 137 v) xT 124 true).run Tryd.prog w = .ok (.tuple #[.nilIface, .bool false]) w := run_typeAssert_lacksB Tryd.underlying124 (by kernel_rfl) (by kernel_rfl) v xT w
theorem eNoUnwrapE (v : Value) (xT : TypeId) (w : World) : (Instr.typeAssert (.iface 137 v) xT 119 true).run Tryd.prog w = .ok (.tuple #[.nilIface, .bool false]) w := run_typeAssert_lacksB Tryd.underlying119 (by kernel_rfl) (by kernel_rfl) v xT w
theorem eNoUnwrapsE (v : Value) (xT : TypeId) (w : World) : (Instr.typeAssert (.iface 137 v) xT 121 true).run Tryd.prog w = .ok (.tuple #[.nilIface, .bool false]) w := run_typeAssert_lacksB Tryd.underlying121 (by kernel_rfl) (by kernel_rfl) v xT w
theorem eNoIsF (v : Value) (xT : TypeId) (w : World) : (Instr.typeAssert (.iface 65 v) xT 124 true).run Tryd.prog w = .ok (.tuple #[.nilIface, .bool false]) w := run_typeAssert_lacksB Tryd.underlying124 (by kernel_rfl) (by kernel_rfl) v xT w
theorem eUnwrapF (v : Value) (xT : TypeId) (w : World) : (Instr.typeAssert (.iface 65 v) xT 119 true).run Tryd.prog w = .ok (.tuple #[.iface 65 v, .bool true]) w := run_typeAssert_hasB Tryd.underlying119 (by kernel_rfl) v xT w
theorem eMethodUnwrap (v : Value) (w : World) : (Go.method 268 65 v "Unwrap").run Tryd.prog w = .ok (95, v) w := by kernel_rfl

set_option maxRecDepth 100000 in
theorem is_same {w : World} {a : Addr} :
    Calls Tryd.prog 32 #[.iface 137 (.pointer (some a)), .iface 137 (.pointer (some a))] w fun e w' => e = .returned (.bool true) ∧ w' = w := by
  obtain ⟨i, hi, hcmp⟩ := Option.map_eq_some_iff.1 eComp
  obtain ⟨j, hj, hjs⟩ := Option.map_eq_some_iff.1 eSize
  have h8 := @run_callFunc_extern Tryd.prog 51 _ Extern.ReflectliteType.typeOf Tryd.func51 (by kernel_rfl) (by kernel_rfl) (by kernel_rfl) (by kernel_rfl)
  have h32 := @run_callFunc_extern Tryd.prog 101 _ eCmpF Tryd.func101 (by kernel_rfl) (by kernel_rfl) (by kernel_rfl) eCmpAt
  have tT := eTypeOf
  have cT := eComparable
  have mR := eMethodComparable
  have heq := run_eql_iface_ptr_same (P := Tryd.prog) w a Tryd.underlying26 Tryd.underlying137 hi hcmp hj
  go_enter Tryd.func32, Tryd.ntmps32
  go_wp2
  refine wp_loop_rounds 1 ?_
  rw [rounds_succ]
  go_wp2
  go_ret
  exact ⟨rfl, rfl⟩

set_option maxRecDepth 100000 in
theorem is_other {w : World} {a b : Addr} {ca cb : Array Value} {ta tb : TypeId} (hne : a ≠ b) (ha : w.heap[a.block]? = some (.cells ca ta (0, 0))) (hb : w.heap[b.block]? = some (.cells cb tb (0, 0))) :
    Calls Tryd.prog 32 #[.iface 137 (.pointer (some a)), .iface 137 (.pointer (some b))] w fun e w' => e = .returned (.bool false) ∧ w' = w := by
  obtain ⟨i, hi, hcmp⟩ := Option.map_eq_some_iff.1 eComp
  obtain ⟨j, hj, hjs⟩ := Option.map_eq_some_iff.1 eSize
  have h8 := @run_callFunc_extern Tryd.prog 51 _ Extern.ReflectliteType.typeOf Tryd.func51 (by kernel_rfl) (by kernel_rfl) (by kernel_rfl) (by kernel_rfl)
  have h32 := @run_callFunc_extern Tryd.prog 101 _ eCmpF Tryd.func101 (by kernel_rfl) (by kernel_rfl) (by kernel_rfl) eCmpAt
  have tT := eTypeOf
  have cT := eComparable
  have mR := eMethodComparable
  have nE := eNoIsE
  have uE := eNoUnwrapE
  have vE := eNoUnwrapsE
  have heq := run_eql_iface_ptr_other (P := Tryd.prog) w Tryd.underlying26 Tryd.underlying137 hi hcmp hj (by rw [hjs]; decide) hne ha hb
  clear hne ha hb
  go_enter Tryd.func32, Tryd.ntmps32
  go_wp2
  refine wp_loop_rounds 1 ?_
  rw [rounds_succ]
  go_wp2
  go_ret
  exact ⟨rfl, rfl⟩

set_option maxRecDepth 100000 in
theorem is_wrap_same {w : World} {g : Nat} {b : Addr} (h1 : w.cell? ⟨g, 0, none⟩ = some (.iface 137 (.pointer (some b)))) :
    Calls Tryd.prog 32 #[.iface 65 (.pointer (some ⟨g, 0, none⟩)), .iface 137 (.pointer (some b))] w fun e w' => e = .returned (.bool true) ∧ w' = w := by
  obtain ⟨i, hi, hcmp⟩ := Option.map_eq_some_iff.1 eComp
  obtain ⟨j, hj, hjs⟩ := Option.map_eq_some_iff.1 eSize
  have h8 := @run_callFunc_extern Tryd.prog 51 _ Extern.ReflectliteType.typeOf Tryd.func51 (by kernel_rfl) (by kernel_rfl) (by kernel_rfl) (by kernel_rfl)
  have h32 := @run_callFunc_extern Tryd.prog 101 _ eCmpF Tryd.func101 (by kernel_rfl) (by kernel_rfl) (by kernel_rfl) eCmpAt
  have tT := eTypeOf
  have cT := eComparable
  have mR := eMethodComparable
  have nW := eNoIsF
  have uW := eUnwrapF
  have mU := eMethodUnwrap
  have heq := run_eql_iface_ptr_same (P := Tryd.prog) w b Tryd.underlying26 Tryd.underlying137 hi hcmp hj
  have hty := run_eql_iface_types (P := Tryd.prog) 65 137 (.pointer (some ⟨g, 0, none⟩)) (.pointer (some b)) Tryd.underlying26 (by decide) w
  go_enter Tryd.func32, Tryd.ntmps32
  go_wp2
  refine wp_loop_rounds 2 ?_
  rw [rounds_succ]
  go_wp2
  rw [rounds_succ]
  go_wp2
  go_ret
  exact ⟨rfl, rfl⟩

set_option maxRecDepth 100000 in
theorem is_wrap_other {w : World} {g : Nat} {a b : Addr} {ca cb : Array Value} {ta tb : TypeId} (h1 : w.cell? ⟨g, 0, none⟩ = some (.iface 137 (.pointer (some a)))) (hne : a ≠ b) (ha : w.heap[a.block]? = some (.cells ca ta (0, 0))) (hb : w.heap[b.block]? = some (.cells cb tb (0, 0))) :
    Calls Tryd.prog 32 #[.iface 65 (.pointer (some ⟨g, 0, none⟩)), .iface 137 (.pointer (some b))] w fun e w' => e = .returned (.bool false) ∧ w' = w := by
  obtain ⟨i, hi, hcmp⟩ := Option.map_eq_some_iff.1 eComp
  obtain ⟨j, hj, hjs⟩ := Option.map_eq_some_iff.1 eSize
  have h8 := @run_callFunc_extern Tryd.prog 51 _ Extern.ReflectliteType.typeOf Tryd.func51 (by kernel_rfl) (by kernel_rfl) (by kernel_rfl) (by kernel_rfl)
  have h32 := @run_callFunc_extern Tryd.prog 101 _ eCmpF Tryd.func101 (by kernel_rfl) (by kernel_rfl) (by kernel_rfl) eCmpAt
  have tT := eTypeOf
  have cT := eComparable
  have mR := eMethodComparable
  have nE := eNoIsE
  have uE := eNoUnwrapE
  have vE := eNoUnwrapsE
  have nW := eNoIsF
  have uW := eUnwrapF
  have mU := eMethodUnwrap
  have heq := run_eql_iface_ptr_other (P := Tryd.prog) w Tryd.underlying26 Tryd.underlying137 hi hcmp hj (by rw [hjs]; decide) hne ha hb
  have hty := run_eql_iface_types (P := Tryd.prog) 65 137 (.pointer (some ⟨g, 0, none⟩)) (.pointer (some b)) Tryd.underlying26 (by decide) w
  clear hne ha hb
  go_enter Tryd.func32, Tryd.ntmps32
  go_wp2
  refine wp_loop_rounds 2 ?_
  rw [rounds_succ]
  go_wp2
  rw [rounds_succ]
  go_wp2
  go_ret
  exact ⟨rfl, rfl⟩

/-- an error that errors.Is finds to be the m-th sentinel alone -/
def ErrIs (w : World) (a : Nat → Addr) (u : TypeId) (x : Value) (m : Nat) : Prop :=
  ∀ w', Below w.heap.size w w' → ∀ i, i < 11 → Calls Tryd.prog 32 #[.iface u x, .iface 137 (.pointer (some (a i)))] w' fun e w'' => e = .returned (.bool (decide (i = m))) ∧ w'' = w'
theorem errIs_snt {w : World} {a : Nat → Addr} (hS : Snt w a) {m : Nat} (hm : m < 11) : ErrIs w a 137 (.pointer (some (a m))) m := by
  intro w' hb i hi
  have hS' := hS.below hb
  by_cases h : i = m
  · subst h; rw [decide_eq_true rfl]; exact is_same
  · rw [decide_eq_false h]
    obtain ⟨c, t, h1⟩ := hS'.obj m hm
    obtain ⟨c2, t2, h2⟩ := hS'.obj i hi
    exact is_other (hS.ne m i hm hi (fun e => h e.symm)) h1 h2
theorem errIs_flt {w : World} {a : Nat → Addr} (hS : Snt w a) {g k : Nat} (hg : w.heap[g]? = some (.cells #[.iface 137 (.pointer (some (a 2))), .int .i64 k, .string ⟨#[]⟩] 69 (0, 0))) : ErrIs w a 65 (.pointer (some ⟨g, 0, none⟩)) 2 := by
  intro w' hb i hi
  have hS' := hS.below hb
  have hg' : w'.heap[g]? = some (.cells #[.iface 137 (.pointer (some (a 2))), .int .i64 k, .string ⟨#[]⟩] 69 (0, 0)) := by
    rw [hb.block _ (Array.getElem?_eq_some_iff.1 hg).1]; exact hg
  have hc : w'.cell? ⟨g, 0, none⟩ = some (.iface 137 (.pointer (some (a 2)))) := by rw [Lib.cell_of_heap hg']; rfl
  by_cases h : i = 2
  · subst h; rw [decide_eq_true rfl]; exact is_wrap_same hc
  · rw [decide_eq_false h]
    obtain ⟨c, t, h1⟩ := hS'.obj 2 (by omega)
    obtain ⟨c2, t2, h2⟩ := hS'.obj i hi
    exact is_wrap_other hc (hS.ne 2 i (by omega) hi (fun e => h e.symm)) h1 h2

end Go.Proofs.YtegokdhmpopggaaDoor
