/- wpHl's further words: an operation taken first where D is empty; a call, its arguments named -/
import Derived.Test.YtomieeajmelglaaOHl
namespace Go.Proofs.Ytomieeajmelglaa
open Go.RowKit
set_option linter.unusedVariables false
section
variable {P : Program} {ops : Array Oper} {Q : Exit → Act → World → Prop} {md : Region.Mode} {C : World → Prop} {D : Nat → Bool}

/-- nothing is in D: an operation that may come up is taken first -/
theorem wpHl.tk0 {i : Nat} {oi : Oper} {d : Option Tmp} {v : Value} {fuel : Nat} {listed : Array Bool} {a : Act} {w : World} (hi : ops[i]? = some oi) (hs : Region.noSelect ops = true) (hfr : (Region.free md ops listed i && (Region.ready md ops listed).contains i) = true)
    (hd : oi.dst = d) (hQ : ∀ c a w, Q (.panic c) (a.put d v) w → Q (.panic c) a w) (hy : YieldsIf P ops C oi v a) (hC : C w)
    (h : wpHl P md ops Q C (fun _ => false) fuel (listed.setIfInBounds i true) (a.put d v) w) : wpHl P md ops Q C (fun _ => false) (fuel + 1) listed a w := by
  subst hd
  simp only [Bool.and_eq_true] at hfr
  have hr : i ∈ Region.ready md ops listed := by simpa using hfr.2
  refine wpHl.first (R := fun k => k != i) hi (Region.noSelect_spec hs) hQ (fun j oj hj hji hall => by simpa using hji) (fun j hj => rfl) rfl fuel listed a w (Region.free_spec hi hfr.1) (fun k hk => ?_) hr hy hC h
  have h1 := (mem_ready.1 hr).1
  simp only [bne_iff_ne, ne_eq]
  rintro rfl
  rcases Nat.lt_or_ge k listed.size with h' | h'
  · simp [Array.getD, h'] at h1 hk
    rw [h1] at hk
    cases hk
  · rw [Array.getD_eq_getD_getElem?, Array.getElem?_eq_none h'] at hk
    cases hk
theorem wpHl.region0 {id : Nat} {a : Act} {w : World} (hm : P.follows .mixedOrders = true) (hs : Region.noSelect ops = true) (h : Region.noSelect ops = true → wpHl P .any ops Q C (fun _ => false) ops.size (Array.replicate ops.size false) a w.drew) : (Code.region id ops true).wp P Q a w :=
  wpHl.region hm (h hs)
/-- a call, its arguments named -/
theorem wp_call_of {o : Oper} {a : Act} {w : World} {K : Act → World → Prop} {f : FuncId} {args : Array Value} (h : (execOp a.eval o).run P w = .ok (.enter f args) w)
    (hc : Calls P f args w fun
      | .returned v, w'' => K (a.put o.dst v) w''
      | .panicked chain, w'' => Q (.panic chain) a w''
      | .outgrown, _ => LetsOut Q) : Oper.wp P o a w K Q := by
  unfold Oper.wp
  rw [h]
  exact hc

end
end Go.Proofs.Ytomieeajmelglaa
