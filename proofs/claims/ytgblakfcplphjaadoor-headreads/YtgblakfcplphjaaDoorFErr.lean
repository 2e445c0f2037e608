/- errors.Is at an *api.Fault around a sentinel, and at a sentinel; the laws' Code, At, Path, Is, IsAt -/
import Derived.Test.YtgblakfcplphjaaDoorFAs
namespace Go.Proofs.YtgblakfcplphjaaDoor
open Go.RowKit Go.Extern.Stop Go.Stop Go.Extern
set_option linter.unusedVariables false

/-- the entry of Comparable -/
noncomputable def eCmpF : Array Value → Sem Value := (Extern.find Tryd.f70).getD (fun _ => pure (.bool false))
theorem eCmpAt : Extern.find Tryd.f70 = some eCmpF := by kernel_rfl
theorem eTypeOf (v : Value) (w : World) : (Extern.ReflectliteType.typeOf #[.iface 102 v]).run Tryd.prog w = .ok (.iface 87 (.agg #[.pointer (some ⟨13, 102, none⟩)])) w := by kernel_rfl
theorem eComparable (w : World) : (eCmpF #[.agg #[.pointer (some ⟨13, 102, none⟩)]]).run Tryd.prog w = .ok (.bool true) w := by kernel_rfl
theorem eMethodComparable (v : Value) (w : World) : (Go.method 236 87 v "Comparable").run Tryd.prog w = .ok (70, v) w := by kernel_rfl
theorem eComp : (Tryd.prog.info? 102).map (·.comparable) = some true := by kernel_rfl
theorem eSize : (Tryd.prog.info? 124).map (·.size) = some 1 := by kernel_rfl
theorem eNoIsE (v : Value) (xT : TypeId) (w : World) : (Instr.typeAssert (.iface 102 v) xT 89 true).run Tryd.prog w = .ok (.tuple #[.nilIface, .bool false]) w := run_typeAssert_lacksB Tryd.underlying89 (by kernel_rfl) (by kernel_rfl) v xT w
theorem eNoUnwrapE (v : Value) (xT : TypeId) (w : World) : (Instr.typeAssert (.iface 102 v) xT 92 true).run Tryd.prog w = .ok (.tuple #[.nilIface, .bool false]) w := run_typeAssert_lacksB Tryd.underlying92 (by kernel_rfl) (by kernel_rfl) v xT w
theorem eNoUnwrapsE (v : Value) (xT : TypeId) (w : World) : (Instr.typeAssert (.iface 102 v) xT 94 true).run Tryd.prog w = .ok (.tuple #[.nilIface, .bool false]) w := run_typeAssert_lacksB Tryd.underlying94 (by kernel_rfl) (by kernel_rfl) v xT w
theorem eNoIsF (v : Value) (xT : TypeId) (w : World) : (Instr.typeAssert (.iface 63 v) xT 89 true).run Tryd.prog w = .ok (.tuple #[.nilIface, .bool false]) w := run_typeAssert_lacksB Tryd.underlying89 (by kernel_rfl) (by kernel_rfl) v xT w
theorem eUnwrapF (v : Value) (xT : TypeId) (w : World) : (Instr.typeAssert (.iface 63 v) xT 92 true).run Tryd.prog w = .ok (.tuple #[.iface 63 v, .bool true]) w := run_typeAssert_hasB Tryd.underlying92 (by kernel_rfl) v xT w
theorem eMethodUnwrap (v : Value) (w : World) : (Go.method 236 63 v "Unwrap").run Tryd.prog w = .ok (64, v) w := by kernel_rfl

set_option maxRecDepth 100000 in
theorem is_same {w : World} {a : Addr} :
    Calls Tryd.prog 31 #[.iface 102 (.pointer (some a)), .iface 102 (.pointer (some a))] w fun e w' => e = .returned (.bool true) ∧ w' = w := by
  obtain ⟨i, hi, hcmp⟩ := Option.map_eq_some_iff.1 eComp
  obtain ⟨j, hj, hjs⟩ := Option.map_eq_some_iff.1 eSize
  have h8 := @run_callFunc_extern Tryd.prog 35 _ Extern.ReflectliteType.typeOf Tryd.func35 (by kernel_rfl) (by kernel_rfl) (by kernel_rfl) (by kernel_rfl)
  have h32 := @run_callFunc_extern Tryd.prog 70 _ eCmpF Tryd.func70 (by kernel_rfl) (by kernel_rfl) (by kernel_rfl) eCmpAt
  have tT := eTypeOf
  have cT := eComparable
  have mR := eMethodComparable
  have heq := run_eql_iface_ptr_same (P := Tryd.prog) w a Tryd.underlying26 Tryd.underlying102 hi hcmp hj
  go_enter Tryd.func31, Tryd.ntmps31
  go_wp2
  refine wp_loop_rounds 1 ?_
  rw [rounds_succ]
  go_wp2
  go_ret
  exact ⟨rfl, rfl⟩

set_option maxRecDepth 100000 in
theorem is_other {w : World} {a b : Addr} {ca cb : Array Value} {ta tb : TypeId} (hne : a ≠ b) (ha : w.heap[a.block]? = some (.cells ca ta (0, 0))) (hb : w.heap[b.block]? = some (.cells cb tb (0, 0))) :
    Calls Tryd.prog 31 #[.iface 102 (.pointer (some a)), .iface 102 (.pointer (some b))] w fun e w' => e = .returned (.bool false) ∧ w' = w := by
  obtain ⟨i, hi, hcmp⟩ := Option.map_eq_some_iff.1 eComp
  obtain ⟨j, hj, hjs⟩ := Option.map_eq_some_iff.1 eSize
  have h8 := @run_callFunc_extern Tryd.prog 35 _ Extern.ReflectliteType.typeOf Tryd.func35 (by kernel_rfl) (by kernel_rfl) (by kernel_rfl) (by kernel_rfl)
  have h32 := @run_callFunc_extern Tryd.prog 70 _ eCmpF Tryd.func70 (by kernel_rfl) (by kernel_rfl) (by kernel_rfl) eCmpAt
  have tT := eTypeOf
  have cT := eComparable
  have mR := eMethodComparable
  have nE := eNoIsE
  have uE := eNoUnwrapE
  have vE := eNoUnwrapsE
  have heq := run_eql_iface_ptr_other (P := Tryd.prog) w Tryd.underlying26 Tryd.underlying102 hi hcmp hj (by rw [hjs]; decide) hne ha hb
  clear hne ha hb
  go_enter Tryd.func31, Tryd.ntmps31
  go_wp2
  refine wp_loop_rounds 1 ?_
  rw [rounds_succ]
  go_wp2
  go_ret
  exact ⟨rfl, rfl⟩

set_option maxRecDepth 100000 in
theorem is_wrap_same {w : World} {g : Nat} {b : Addr} (h1 : w.cell? ⟨g, 0, none⟩ = some (.iface 102 (.pointer (some b)))) :
    Calls Tryd.prog 31 #[.iface 63 (.pointer (some ⟨g, 0, none⟩)), .iface 102 (.pointer (some b))] w fun e w' => e = .returned (.bool true) ∧ w' = w := by
  obtain ⟨i, hi, hcmp⟩ := Option.map_eq_some_iff.1 eComp
  obtain ⟨j, hj, hjs⟩ := Option.map_eq_some_iff.1 eSize
  have h8 := @run_callFunc_extern Tryd.prog 35 _ Extern.ReflectliteType.typeOf Tryd.func35 (by kernel_rfl) (by kernel_rfl) (by kernel_rfl) (by kernel_rfl)
  have h32 := @run_callFunc_extern Tryd.prog 70 _ eCmpF Tryd.func70 (by kernel_rfl) (by kernel_rfl) (by kernel_rfl) eCmpAt
  have tT := eTypeOf
  have cT := eComparable
  have mR := eMethodComparable
  have nW := eNoIsF
  have uW := eUnwrapF
  have mU := eMethodUnwrap
  have heq := run_eql_iface_ptr_same (P := Tryd.prog) w b Tryd.underlying26 Tryd.underlying102 hi hcmp hj
  have hty := run_eql_iface_types (P := Tryd.prog) 63 102 (.pointer (some ⟨g, 0, none⟩)) (.pointer (some b)) Tryd.underlying26 (by decide) w
  go_enter Tryd.func31, Tryd.ntmps31
  go_wp2
  refine wp_loop_rounds 2 ?_
  rw [rounds_succ]
  go_wp2
  rw [rounds_succ]
  go_wp2
  go_ret
  exact ⟨rfl, rfl⟩

set_option maxRecDepth 100000 in
theorem is_wrap_other {w : World} {g : Nat} {a b : Addr} {ca cb : Array Value} {ta tb : TypeId} (h1 : w.cell? ⟨g, 0, none⟩ = some (.iface 102 (.pointer (some a)))) (hne : a ≠ b) (ha : w.heap[a.block]? = some (.cells ca ta (0, 0))) (hb : w.heap[b.block]? = some (.cells cb tb (0, 0))) :
    Calls Tryd.prog 31 #[.iface 63 (.pointer (some ⟨g, 0, none⟩)), .iface 102 (.pointer (some b))] w fun e w' => e = .returned (.bool false) ∧ w' = w := by
  obtain ⟨i, hi, hcmp⟩ := Option.map_eq_some_iff.1 eComp
  obtain ⟨j, hj, hjs⟩ := Option.map_eq_some_iff.1 eSize
  have h8 := @run_callFunc_extern Tryd.prog 35 _ Extern.ReflectliteType.typeOf Tryd.func35 (by kernel_rfl) (by kernel_rfl) (by kernel_rfl) (by kernel_rfl)
  have h32 := @run_callFunc_extern Tryd.prog 70 _ eCmpF Tryd.func70 (by kernel_rfl) (by kernel_rfl) (by kernel_rfl) eCmpAt
  have tT := eTypeOf
  have cT := eComparable
  have mR := eMethodComparable
  have nE := eNoIsE
  have uE := eNoUnwrapE
  have vE := eNoUnwrapsE
  have nW := eNoIsF
  have uW := eUnwrapF
  have mU := eMethodUnwrap
  have heq := run_eql_iface_ptr_other (P := Tryd.prog) w Tryd.underlying26 Tryd.underlying102 hi hcmp hj (by rw [hjs]; decide) hne ha hb
  have hty := run_eql_iface_types (P := Tryd.prog) 63 102 (.pointer (some ⟨g, 0, none⟩)) (.pointer (some b)) Tryd.underlying26 (by decide) w
  clear hne ha hb
  go_enter Tryd.func31, Tryd.ntmps31
  go_wp2
  refine wp_loop_rounds 2 ?_
  rw [rounds_succ]
  go_wp2
  rw [rounds_succ]
  go_wp2
  go_ret
  exact ⟨rfl, rfl⟩

theorem errIs_snt {w : World} {a : Nat → Addr} (hS : Snt w a) {m : Nat} (hm : m < 11) : ErrIs w a 102 (.pointer (some (a m))) (fun i => decide (i = m)) := by
  intro w' hb i hi
  have hS' := hS.below hb
  by_cases h : i = m
  · subst h; simp only [decide_true]; exact is_same.mono fun e w'' ⟨h1, h2⟩ => ⟨h1, h2 ▸ Below.refl _ _⟩
  · simp only [h, decide_false]
    obtain ⟨c, t, h1⟩ := hS'.obj m hm
    obtain ⟨c2, t2, h2⟩ := hS'.obj i (by omega)
    exact (is_other (hS.ne m i hm (by omega) (fun e => h e.symm)) h1 h2).mono fun e w'' ⟨h1, h2⟩ => ⟨h1, h2 ▸ Below.refl _ _⟩
theorem errIs_flt {w : World} {a : Nat → Addr} (hS : Snt w a) {g m : Nat} {k : Int} {s : ByteArray} (hm : m < 11) (hg : FltAt w g (.iface 102 (.pointer (some (a m)))) k s) : ErrIs w a 63 (.pointer (some ⟨g, 0, none⟩)) (fun i => decide (i = m)) := by
  intro w' hb i hi
  have hS' := hS.below hb
  have hc : w'.cell? ⟨g, 0, none⟩ = some (.iface 102 (.pointer (some (a m)))) := by rw [Lib.cell_of_heap (hg.below hb)]; rfl
  by_cases h : i = m
  · subst h; simp only [decide_true]; exact (is_wrap_same hc).mono fun e w'' ⟨h1, h2⟩ => ⟨h1, h2 ▸ Below.refl _ _⟩
  · simp only [h, decide_false]
    obtain ⟨c, t, h1⟩ := hS'.obj m hm
    obtain ⟨c2, t2, h2⟩ := hS'.obj i (by omega)
    exact (is_wrap_other hc (hS.ne m i hm (by omega) (fun e => h e.symm)) h1 h2).mono fun e w'' ⟨h1, h2⟩ => ⟨h1, h2 ▸ Below.refl _ _⟩
theorem asIs_flt {w : World} {g : Nat} (hH : Hnd w) : AsIs w 63 (.pointer (some ⟨g, 0, none⟩)) (some (some ⟨g, 0, none⟩)) :=
  fun w' hb => as_flt (hH.below hb)

end Go.Proofs.YtgblakfcplphjaaDoor
