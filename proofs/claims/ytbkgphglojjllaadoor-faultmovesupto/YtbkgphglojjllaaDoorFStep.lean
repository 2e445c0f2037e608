/- a Go call as a step of a region that draws its order -/
import Derived.Test.YtbkgphglojjllaaDoorFBtG
import Derived.Shelf.Abstract
namespace Go.Proofs.YtbkgphglojjllaaDoor
open Go.RowKit
set_option linter.unusedVariables false

theorem enter_build (args : Array Value) (w : World) : (callFunc 10 args).run Tryd.prog w = .ok (.enter 10 args) w := enters_of Tryd.func10 (by kernel_rfl) rfl args w
theorem step_build {ops : Array Oper} {o : Oper} {a : Act} {w : World} {K : Act → World → Prop} {Q : Exit → Act → World → Prop} {E : Prop} (hgd : o.guard = none) (x : Operand) (t : TypeId)
    (ho : o.op = .call { callee := .value (.func 10), args := #[x], argTypes := #[t] }) (v : Value) (hx : a.eval x = v) (R : Ending → World → Prop) (hC : Calls Tryd.prog 10 #[v] w R)
    (hR : ∀ e w', R e w' → ∃ r, e = .returned r ∧ K (a.put o.dst r) w') :
    if Region.wanted o (yielded ops a.tmps) = true then Oper.wp Tryd.prog o a w K Q else E := by
  have hw : Region.wanted o (yielded ops a.tmps) = true := by simp [Region.wanted, hgd]
  rw [if_pos hw]
  have hen := enter_build
  have key : (execOp a.eval o).run Tryd.prog w = .ok (.enter 10 #[v]) w := by
    unfold execOp
    simp only [ho]
    simp [go_sem, hen, resolve, invoke]
    rw [← hx]
    cases x <;> simp [Act.eval]
  unfold Oper.wp
  rw [key, Oper.upon_enter]
  refine hC.mono fun e w' h => ?_
  obtain ⟨r, rfl, hk⟩ := hR e w' h
  exact hk

end Go.Proofs.YtbkgphglojjllaaDoor
