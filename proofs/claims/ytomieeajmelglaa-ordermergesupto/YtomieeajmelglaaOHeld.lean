/- a region that draws its order inside a fence: reads may be taken first while the world stands (own theory, over OrdersIn and OrdersHeld) -/
import Derived.OrdersIn
import Derived.OrdersHeld
import Derived.Test.YtomieeajmelglaaOKitN
namespace Go.Proofs.Ytomieeajmelglaa
open Go.RowKit Go.Shelf
set_option linter.unusedVariables false
section
variable {F : Fence} {n : Nat} {P : Program} {ops : Array Oper} {Q : Exit → Act → World → Prop} {md : Region.Mode} {C : World → Prop} {D : Nat → Bool}

/-- no operation defers: each is carried out in a round as anywhere -/
def oNoDefer (ops : Array Oper) : Bool := ops.all fun o => match o.op with | .defer _ => false | _ => true
theorem sem_plain (h : oNoDefer ops = true) {j : Nat} {o : Oper} (hj : ops[j]? = some o) (ρ : Operand → Value) : Oper.semAt F.round ρ o = execOp ρ o := by
  have hd : ∀ c, o.op ≠ .defer c := fun c e => by
    have := Array.all_eq_true_iff_forall_mem.1 h o (Array.mem_of_getElem? hj)
    simp [e] at this
  cases F.round with
  | none => rw [Oper.semAt_none]
  | some l => exact Oper.semAt_some l ρ o hd
/-- what may be told of the frame behind one operation -/
def Behind (o : Oper) (a a' : Act) : Prop := ∃ ds u, a' = ({ a with defers := ds } : Act).put o.dst u
theorem behind_put (o : Oper) (a : Act) (u : Value) : Behind o a (a.put o.dst u) := ⟨a.defers, u, rfl⟩

theorem held_put {j : Nat} {oi oj : Oper} {v : Value} (hro : oNoDefer ops = true) (hj : ops[j]? = some oj) (hap : oi.apart ops oj = true) (hsj : ∀ cs b, oj.op ≠ .select cs b)
    (hQ : ∀ c a w, Q (.panic c) (a.put oi.dst v) w → Q (.panic c) a w) {K : Act → World → Prop} {a : Act} {w : World} (h : wpOpIn F n P ops Q j K (a.put oi.dst v) w) :
    wpOpIn F n P ops Q j (fun a' w' => Behind oj a a' ∧ K (a'.put oi.dst v) w') a w := by
  obtain ⟨h1, h2, -⟩ := Oper.apart_spec hap
  have put : ∀ {b : Act} {u : Value} {w' : World}, K ((b.put oi.dst v).put oj.dst u) w' → K ((b.put oj.dst u).put oi.dst v) w' := fun {b u w'} k => by rw [← Act.put_comm b v u h2]; exact k
  unfold wpOpIn at h ⊢
  simp only [hj, wanted_put oj a oi.dst v h1, about_put oj w a oi.dst v h1] at h ⊢
  by_cases hw : Region.wanted oj (yielded ops a.tmps) = true
  · simp only [hw, if_true, Oper.wpIn, about_put oj w a oi.dst v h1, sem_plain hro hj, execOp_put oj hsj a oi.dst v h1] at h ⊢
    refine ⟨h.1, ?_⟩
    have h := h.2
    revert h
    cases (execOp a.eval oj).run P w with
    | ok x w' =>
      cases x <;> simp only [Oper.uponIn] <;> intro h
      case value u => exact ⟨behind_put oj a u, put h⟩
      case skip => exact ⟨behind_put oj a undef, put h⟩
      case defer d => exact ⟨⟨_, undef, rfl⟩, put (b := { a with defers := d :: a.defers }) (by rw [← Act.put_defers]; exact h)⟩
      case enter f args =>
        refine ⟨h.1, h.2.mono fun e w'' k => ?_⟩
        cases e with
        | returned u => exact ⟨behind_put oj a u, put k⟩
        | panicked c => exact hQ _ _ _ k
        | outgrown => exact k
      case row r args => exact ⟨h.1, RowsIn.mono h.2 fun u w'' k => ⟨behind_put oj a u, put k⟩⟩
      case round l f tmps assign body =>
        refine ⟨h.1, h.2.mono fun e w'' k => ?_⟩
        cases e with
        | returned u => exact ⟨behind_put oj a u, put k⟩
        | panicked c => exact hQ _ _ _ k
        | outgrown => exact k
      all_goals exact h
    | halt x w' =>
      cases x <;> simp only [Oper.uponIn] <;> intro h
      case panic u => exact hQ _ _ _ h
      all_goals exact h
  · simp only [hw] at h ⊢
    exact ⟨h.1, behind_put oj a undef, put h.2⟩

/-- in this frame the operation leaves v, in every world of which C holds, and calls nothing -/
def YieldsAt (P : Program) (ops : Array Oper) (C : World → Prop) (o : Oper) (v : Value) (a : Act) : Prop := YieldsIf P ops C o v a ∧ ∀ w, o.about P w a.eval = none
theorem YieldsAt.behind {oi oj : Oper} {v : Value} {a a' : Act} (h : YieldsAt P ops C oi v a) (hs : ∀ cs b, oi.op ≠ .select cs b) (hap : oi.apart ops oj = true) (hb : Behind oj a a') : YieldsAt P ops C oi v a' := by
  obtain ⟨ds, u, rfl⟩ := hb
  have h3 := (Oper.apart_spec hap).2.2
  exact ⟨h.1.of_same (execOp_put oi hs { a with defers := ds } oj.dst u h3) (wanted_put oi { a with defers := ds } oj.dst u h3), fun w => (about_put oi w { a with defers := ds } oj.dst u h3).trans (h.2 w)⟩
theorem YieldsAt.go {i : Nat} {o : Oper} {v : Value} {a : Act} (hro : oNoDefer ops = true) (hi : ops[i]? = some o) (hy : YieldsAt P ops C o v a) {K : Act → World → Prop} {w : World} (hC : C w) (h : K (a.put o.dst v) w) : wpOpIn F n P ops Q i K a w := by
  have hab : ∀ f, o.about P w a.eval = some f → F.fn f := fun f hf => by rw [hy.2 w] at hf; cases hf
  unfold wpOpIn
  simp only [hi]
  rcases hy.1 with ⟨hw, hv⟩ | ⟨hw, rfl⟩
  · simp only [hw, if_true, Oper.wpIn, sem_plain hro hi, hv w hC, Oper.uponIn]
    exact ⟨hab, h⟩
  · simp only [hw, Bool.false_eq_true, if_false]
    exact ⟨hab, h⟩

/-- whatever order is picked; C holds behind every operation that is none of D -/
def wpHeld (F : Fence) (n : Nat) (P : Program) (md : Region.Mode) (ops : Array Oper) (Q : Exit → Act → World → Prop) (C : World → Prop) (D : Nat → Bool) : Nat → Array Bool → Act → World → Prop
  | 0, listed, a, w => Region.ready md ops listed = [] ∧ Q .normal a w
  | fuel + 1, listed, a, w => (Region.ready md ops listed = [] → Q .normal a w) ∧
    ∀ i ∈ Region.ready md ops listed, wpOpIn F n P ops Q i (fun a' w' => (D i = false → C w') ∧ wpHeld F n P md ops Q C D fuel (listed.setIfInBounds i true) a' w') a w
theorem wpHeld.any : ∀ (fuel : Nat) (listed : Array Bool) (a : Act) (w : World), wpHeld F n P md ops Q C D fuel listed a w → wpAnyIn F n P md ops Q fuel listed a w
  | 0, _, _, _, h => h
  | fuel + 1, _, _, _, h => ⟨h.1, fun i hi => wpOpIn_mono (fun a' w' k => wpHeld.any fuel _ a' w' k.2) (h.2 i hi)⟩
theorem wpHeld.region {id : Nat} {a : Act} {w : World} (hm : P.follows .mixedOrders = true) (h : wpHeld F n P .any ops Q C D ops.size (Array.replicate ops.size false) a w.drew) : (Code.region id ops true).wpIn F n P Q a w :=
  wpIn_region_any hm (wpHeld.any _ _ _ _ h)
theorem wpHeld.done {listed : Array Bool} {a : Act} {w : World} (hr : Region.ready md ops listed = []) (h : Q .normal a w) : ∀ fuel, wpHeld F n P md ops Q C D fuel listed a w
  | 0 => ⟨hr, h⟩
  | _ + 1 => ⟨fun _ => h, by rw [hr]; simp⟩
theorem wpHeld.one {i : Nat} {fuel : Nat} {listed : Array Bool} {a : Act} {w : World} {o : Oper} (hr : Region.ready md ops listed = [i]) (ho : ops[i]? = some o)
    (h : ∀ K : Act → World → Prop, (∀ a' w', (D i = false → C w') ∧ wpHeld F n P md ops Q C D fuel (listed.setIfInBounds i true) a' w' → K a' w') → if Region.wanted o (yielded ops a.tmps) = true then Oper.wpIn F n P o a w K Q else (∀ f, o.about P w a.eval = some f → F.fn f) ∧ K (a.put o.dst undef) w) :
    wpHeld F n P md ops Q C D (fuel + 1) listed a w :=
  ⟨fun h0 => (by rw [hr] at h0; cases h0), fun j hj => by
    rw [hr, List.mem_singleton] at hj
    subst hj
    exact wpOpIn_step ho h⟩

/-- an operation that may come up is taken first, if none of D can come ahead of it -/
theorem wpHeld.first {i : Nat} {oi : Oper} {v : Value} {R : Nat → Bool} (hro : oNoDefer ops = true) (hi : ops[i]? = some oi) (hsel : ∀ (j : Nat) (o : Oper) cs b, ops[j]? = some o → o.op ≠ .select cs b)
    (hQ : ∀ c a w, Q (.panic c) (a.put oi.dst v) w → Q (.panic c) a w) (hR : ∀ j oj, ops[j]? = some oj → j ≠ i → (∀ e ∈ oj.after, Region.binds md e = true → R e.on = true) → R j = true) (hD : ∀ j, R j = true → D j = false) (hDi : D i = false) :
    ∀ (fuel : Nat) (listed : Array Bool) (a : Act) (w : World), (∀ j oj, ops[j]? = some oj → j ≠ i → listed.getD j true = false → (∀ e ∈ oj.after, Region.binds md e = true → e.on ≠ i) → oi.apart ops oj = true) →
      (∀ k, listed.getD k false = true → R k = true) → i ∈ Region.ready md ops listed → YieldsAt P ops C oi v a → C w →
      wpHeld F n P md ops Q C D fuel (listed.setIfInBounds i true) (a.put oi.dst v) w → wpHeld F n P md ops Q C D (fuel + 1) listed a w := by
  intro fuel
  induction fuel with
  | zero =>
    intro listed a w _ _ hr hy hC H
    refine ⟨fun h => (by rw [h] at hr; cases hr), fun j hj => ?_⟩
    by_cases hji : j = i
    · subst hji
      exact hy.go hro hi hC ⟨fun _ => hC, H⟩
    · have := ready_mono hj hji
      rw [H.1] at this
      cases this
  | succ fuel ih =>
    intro listed a w hfree hl hr hy hC H
    refine ⟨fun h => (by rw [h] at hr; cases hr), fun j hj => ?_⟩
    by_cases hji : j = i
    · subst hji
      exact hy.go hro hi hC ⟨fun _ => hC, H⟩
    · obtain ⟨hjun, oj, hoj, hall⟩ := mem_ready.1 hj
      have hiun := (mem_ready.1 hr).1
      have hnot : ∀ e ∈ oj.after, Region.binds md e = true → e.on ≠ i := fun e he hb heq => by
        have h1 := hall e he hb
        rw [heq] at h1
        rcases Nat.lt_or_ge i listed.size with h' | h'
        · simp [h'] at hiun h1
          rw [hiun] at h1
          cases h1
        · simp [Array.getElem?_eq_none h'] at h1
      have hap := hfree j oj hoj hji hjun hnot
      have hRj : R j = true := hR j oj hoj hji (fun e he hb => hl _ (hall e he hb))
      have h2 := held_put hro hoj hap (fun cs b => hsel j oj cs b hoj) hQ (H.2 j (ready_mono hj hji))
      refine wpOpIn_mono (fun a' w' k => ?_) h2
      obtain ⟨hb, hc, hk⟩ := k
      refine ⟨hc, ih (listed.setIfInBounds j true) a' w' (fun k ok hk' hki hun hno => hfree k ok hk' hki ?_ hno) (fun k hk' => ?_) (ready_mono hr (Ne.symm hji)) (hy.behind (fun cs b => hsel i oi cs b hi) hap hb) (hc (hD j hRj)) ?_⟩
      · by_cases hjk : j = k
        · subst hjk; exact hjun
        · rw [getD_set_ne true hjk] at hun; exact hun
      · by_cases hjk : j = k
        · subst hjk; exact hRj
        · rw [getD_set_ne false hjk] at hk'; exact hl k hk'
      · rw [Array.setIfInBounds_comm _ _ hji]
        exact hk
/-- once all but D's have come up, another word may be held -/
theorem wpHeld.change {C' : World → Prop} {D' : Nat → Bool} : ∀ (fuel : Nat) (listed : Array Bool) (a : Act) (w : World), (∀ i, D i = false → listed.getD i true = true) → wpHeld F n P md ops Q C' D' fuel listed a w → wpHeld F n P md ops Q C D fuel listed a w
  | 0, _, _, _, _, h => h
  | fuel + 1, listed, a, w, hl, h => by
    refine ⟨h.1, fun i hi => wpOpIn_mono (fun a' w' k => ?_) (h.2 i hi)⟩
    have h1 := (mem_ready.1 hi).1
    refine ⟨fun hd => ?_, wpHeld.change fuel _ a' w' (fun j hj => ?_) k.2⟩
    · rw [hl i hd] at h1
      cases h1
    · by_cases hij : i = j
      · subst hij
        rw [hl i hj] at h1
        cases h1
      · rw [getD_set_ne true hij]
        exact hl j hj
/-- what can come up while number i does not -/
def oReach (md : Region.Mode) (ops : Array Oper) (i : Nat) : Nat → List Nat → List Nat
  | 0, L => L
  | k + 1, L => oReach md ops i k ((List.range ops.size).filter fun j => L.contains j || (j != i && (ops[j]?).any (fun o => o.after.all fun e => !Region.binds md e || L.contains e.on)))
def oHeldB (md : Region.Mode) (ops : Array Oper) (D : Nat → Bool) (listed : Array Bool) (i : Nat) (L : List Nat) : Bool :=
  (List.range ops.size).all (fun j => j == i || L.contains j || (ops[j]?).any (fun o => o.after.any fun e => Region.binds md e && !L.contains e.on)) && L.all (fun j => !D j) && (List.range listed.size).all (fun k => !listed.getD k false || L.contains k) && !D i
theorem wpHeld.take {i : Nat} {oi : Oper} {v : Value} {fuel : Nat} {listed : Array Bool} {a : Act} {w : World} (hro : oNoDefer ops = true) (hi : ops[i]? = some oi) (hs : Region.noSelect ops = true) (hf : Region.free md ops listed i = true) (hr : (Region.ready md ops listed).contains i = true)
    (hB : oHeldB md ops D listed i (oReach md ops i ops.size ((List.range listed.size).filter fun k => listed.getD k false)) = true) (hQ : ∀ c a w, Q (.panic c) (a.put oi.dst v) w → Q (.panic c) a w) (hy : YieldsAt P ops C oi v a) (hC : C w)
    (h : wpHeld F n P md ops Q C D fuel (listed.setIfInBounds i true) (a.put oi.dst v) w) : wpHeld F n P md ops Q C D (fuel + 1) listed a w := by
  generalize oReach md ops i ops.size _ = L at hB
  simp only [oHeldB, Bool.and_eq_true, List.all_eq_true, List.mem_range, Bool.or_eq_true, beq_iff_eq, Bool.not_eq_true'] at hB
  obtain ⟨⟨⟨b1, b2⟩, b3⟩, b4⟩ := hB
  refine wpHeld.first (R := fun k => L.contains k) hro hi (Region.noSelect_spec hs) hQ (fun j oj hj hji hall => ?_) (fun j hj => b2 j (by simpa using hj)) b4 fuel listed a w (Region.free_spec hi hf) (fun k hk => ?_) (by simpa using hr) hy hC h
  · rcases b1 j (Array.getElem?_eq_some_iff.1 hj).1 with (e | e) | e
    · exact absurd e hji
    · exact e
    · rw [hj] at e
      simp only [Option.any_some, Array.any_eq_true] at e
      obtain ⟨k, hk, e⟩ := e
      simp only [Bool.and_eq_true, Bool.not_eq_true'] at e
      have := hall _ (Array.getElem_mem hk) e.1
      rw [this] at e
      exact absurd e.2 (by simp)
  · by_cases hlt : k < listed.size
    · rcases b3 k hlt with e | e
      · rw [hk] at e; cases e
      · exact e
    · rw [Array.getD_eq_getD_getElem?, Array.getElem?_eq_none (by omega)] at hk
      cases hk
theorem wpHeld.tk {i : Nat} {oi : Oper} {d : Option Tmp} {v : Value} {fuel : Nat} {listed : Array Bool} {a : Act} {w : World} (hro : oNoDefer ops = true) (hi : ops[i]? = some oi) (hs : Region.noSelect ops = true) (hf : Region.free md ops listed i = true) (hr : (Region.ready md ops listed).contains i = true)
    (hB : oHeldB md ops D listed i (oReach md ops i ops.size ((List.range listed.size).filter fun k => listed.getD k false)) = true) (hd : oi.dst = d) (hQ : ∀ c a w, Q (.panic c) (a.put d v) w → Q (.panic c) a w) (hy : YieldsAt P ops C oi v a) (hC : C w)
    (h : wpHeld F n P md ops Q C D fuel (listed.setIfInBounds i true) (a.put d v) w) : wpHeld F n P md ops Q C D (fuel + 1) listed a w := by
  subst hd
  exact wpHeld.take hro hi hs hf hr hB hQ hy hC h

end
end Go.Proofs.Ytomieeajmelglaa
