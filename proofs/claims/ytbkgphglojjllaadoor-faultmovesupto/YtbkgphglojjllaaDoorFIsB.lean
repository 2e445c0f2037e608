/- errors.Is of errors that are built of nodes -/
import Derived.Test.YtbkgphglojjllaaDoorFIs
namespace Go.Proofs.YtbkgphglojjllaaDoor
open Go.RowKit Go.Extern.Stop Go.Stop Go.Extern
set_option linter.unusedVariables false

set_option maxRecDepth 100000 in
theorem errIs_bt {w : World} {a : Nat → Addr} {u : TypeId} {p : Value} {x : Nd} (hS : Snt w a) (hB : Bt w a (.iface u p) x) : ErrIs w a u p (fun i => ndB i x) := by
  intro w' hb i hi
  have h8 := @run_callFunc_extern Tryd.prog 49 _ Extern.ReflectliteType.typeOf Tryd.func49 (by kernel_rfl) (by kernel_rfl) (by kernel_rfl) (by kernel_rfl)
  have h32 := @run_callFunc_extern Tryd.prog 108 _ eCmpF Tryd.func108 (by kernel_rfl) (by kernel_rfl) (by kernel_rfl) eCmpAt
  have tT := eTypeOf
  have cT := eComparable
  have mR := eMethodComparable
  have HC := hide (is_all hi _ x (Nat.le_refl _) w' (.iface u p) (hS.below hb) (hB.far hb))
  clear hS hB hb
  go_enter Tryd.func37, Tryd.ntmps37
  go_wp2_with fail
  refine HC.out.mono ?_
  rintro e w1 ⟨rfl, hb1⟩
  have K1 := hide hb1
  clear hb1
  go_wp2
  go_ret
  exact ⟨rfl, K1.out⟩

end Go.Proofs.YtbkgphglojjllaaDoor
