import Derived.OrdersHeld
import Derived.RegionTactic
namespace Go.Proofs.YticmlelalbaalaaGreatDoor
set_option linter.unusedVariables false
section
variable {P : Program} {ops : Array Oper} {Q : Exit → Act → World → Prop}
end
end Go.Proofs.YticmlelalbaalaaGreatDoor
namespace Go.Proofs.YticmlelalbaalaaGreatDoor
set_option linter.unusedVariables false
section
variable {P : Program} {ops : Array Oper} {Q : Exit → Act → World → Prop} {md : Region.Mode} {C : World → Prop} {D : Nat → Bool}
def wpHl (P : Program) (md : Region.Mode) (ops : Array Oper) (Q : Exit → Act → World → Prop) (C : World → Prop) (D : Nat → Bool) : Nat → Array Bool → Act → World → Prop
  | 0, listed, a, w => Region.ready md ops listed = [] ∧ Q .normal a w
  | fuel + 1, listed, a, w => (Region.ready md ops listed = [] → Q .normal a w) ∧
    ∀ i ∈ Region.ready md ops listed, wpOp P ops Q i (fun a' w' => (D i = false → C w') ∧ wpHl P md ops Q C D fuel (listed.setIfInBounds i true) a' w') a w
theorem wpHl.any : ∀ (fuel : Nat) (listed : Array Bool) (a : Act) (w : World), wpHl P md ops Q C D fuel listed a w → wpAny P md ops Q fuel listed a w
  | 0, _, _, _, h => h
  | fuel + 1, _, _, _, h => ⟨h.1, fun i hi => wpOp_mono (fun a' w' k => wpHl.any fuel _ a' w' k.2) (h.2 i hi)⟩
theorem wpHl.region {id : Nat} {a : Act} {w : World} (hm : P.follows .mixedOrders = true) (h : wpHl P .any ops Q C D ops.size (Array.replicate ops.size false) a w.drew) : (Code.region id ops true).wp P Q a w :=
  wp_region_any hm (wpHl.any _ _ _ _ h)
theorem wpHl.done {listed : Array Bool} {a : Act} {w : World} (hr : Region.ready md ops listed = []) (h : Q .normal a w) : ∀ fuel, wpHl P md ops Q C D fuel listed a w
  | 0 => ⟨hr, h⟩
  | _ + 1 => ⟨fun _ => h, by rw [hr]; simp⟩
theorem wpHl.one {i : Nat} {fuel : Nat} {listed : Array Bool} {a : Act} {w : World} {o : Oper} (hr : Region.ready md ops listed = [i]) (ho : ops[i]? = some o)
    (h : ∀ K : Act → World → Prop, (∀ a' w', (D i = false → C w') ∧ wpHl P md ops Q C D fuel (listed.setIfInBounds i true) a' w' → K a' w') → if Region.wanted o (yielded ops a.tmps) = true then Oper.wp P o a w K Q else K (a.put o.dst undef) w) :
    wpHl P md ops Q C D (fuel + 1) listed a w :=
  ⟨fun h0 => (by rw [hr] at h0; cases h0), fun j hj => by
    rw [hr, List.mem_singleton] at hj
    subst hj
    exact wpOp_step ho h⟩
theorem wpHl.first {i : Nat} {oi : Oper} {v : Value} {R : Nat → Bool} (hi : ops[i]? = some oi) (hsel : ∀ (j : Nat) (o : Oper) cs b, ops[j]? = some o → o.op ≠ .select cs b)
    (hQ : ∀ c a w, Q (.panic c) (a.put oi.dst v) w → Q (.panic c) a w) (hR : ∀ j oj, ops[j]? = some oj → j ≠ i → (∀ e ∈ oj.after, Region.binds md e = true → R e.on = true) → R j = true) (hD : ∀ j, R j = true → D j = false) (hDi : D i = false) :
    ∀ (fuel : Nat) (listed : Array Bool) (a : Act) (w : World), (∀ j oj, ops[j]? = some oj → j ≠ i → listed.getD j true = false → (∀ e ∈ oj.after, Region.binds md e = true → e.on ≠ i) → oi.apart ops oj = true) →
      (∀ k, listed.getD k false = true → R k = true) → i ∈ Region.ready md ops listed → YieldsIf P ops C oi v a → C w →
      wpHl P md ops Q C D fuel (listed.setIfInBounds i true) (a.put oi.dst v) w → wpHl P md ops Q C D (fuel + 1) listed a w := by
  intro fuel
  induction fuel with
  | zero =>
    intro listed a w _ _ hr hy hC H
    refine ⟨fun h => (by rw [h] at hr; cases hr), fun j hj => ?_⟩
    by_cases hji : j = i
    · subst hji
      exact hy.wpOp hi hC ⟨fun _ => hC, H⟩
    · have := ready_mono hj hji
      rw [H.1] at this
      cases this
  | succ fuel ih =>
    intro listed a w hfree hl hr hy hC H
    refine ⟨fun h => (by rw [h] at hr; cases hr), fun j hj => ?_⟩
    by_cases hji : j = i
    · subst hji
      exact hy.wpOp hi hC ⟨fun _ => hC, H⟩
    · obtain ⟨hjun, oj, hoj, hall⟩ := mem_ready.1 hj
      have hiun := (mem_ready.1 hr).1
      have hnot : ∀ e ∈ oj.after, Region.binds md e = true → e.on ≠ i := fun e he hb heq => by
        have h1 := hall e he hb
        rw [heq] at h1
        rcases Nat.lt_or_ge i listed.size with h' | h'
        · simp [h'] at hiun h1
          rw [hiun] at h1
          cases h1
        · simp [Array.getElem?_eq_none h'] at h1
      have hap := hfree j oj hoj hji hjun hnot
      have hRj : R j = true := hR j oj hoj hji (fun e he hb => hl _ (hall e he hb))
      have h2 := wpOp_putIf hoj hap (fun cs b => hsel i oi cs b hi) (fun cs b => hsel j oj cs b hoj) hQ hy (H.2 j (ready_mono hj hji))
      refine wpOp_mono (fun a' w' k => ?_) h2
      obtain ⟨hb, hc, hk⟩ := k
      refine ⟨hc, ih (listed.setIfInBounds j true) a' w' (fun k ok hk' hki hun hno => hfree k ok hk' hki ?_ hno) (fun k hk' => ?_) (ready_mono hr (Ne.symm hji)) hb (hc (hD j hRj)) ?_⟩
      · by_cases hjk : j = k
        · subst hjk; exact hjun
        · rw [getD_set_ne true hjk] at hun; exact hun
      · by_cases hjk : j = k
        · subst hjk; exact hRj
        · rw [getD_set_ne false hjk] at hk'; exact hl k hk'
      · rw [Array.setIfInBounds_comm _ _ hji]
        exact hk
def hReach (md : Region.Mode) (ops : Array Oper) (i : Nat) : Nat → List Nat → List Nat
  | 0, L => L
  | k + 1, L => hReach md ops i k ((List.range ops.size).filter fun j => L.contains j || (j != i && (ops[j]?).any (fun o => o.after.all fun e => !Region.binds md e || L.contains e.on)))
def hHeldB (md : Region.Mode) (ops : Array Oper) (D : Nat → Bool) (listed : Array Bool) (i : Nat) (L : List Nat) : Bool :=
  (List.range ops.size).all (fun j => j == i || L.contains j || (ops[j]?).any (fun o => o.after.any fun e => Region.binds md e && !L.contains e.on)) && L.all (fun j => !D j) && (List.range listed.size).all (fun k => !listed.getD k false || L.contains k) && !D i
theorem wpHl.tk {i : Nat} {oi : Oper} {d : Option Tmp} {v : Value} {fuel : Nat} {listed : Array Bool} {a : Act} {w : World} (hi : ops[i]? = some oi) (hs : Region.noSelect ops = true) (hf : Region.free md ops listed i = true) (hr : (Region.ready md ops listed).contains i = true)
    (hB : hHeldB md ops D listed i (hReach md ops i ops.size ((List.range listed.size).filter fun k => listed.getD k false)) = true) (hd : oi.dst = d) (hQ : ∀ c a w, Q (.panic c) (a.put d v) w → Q (.panic c) a w) (hy : YieldsIf P ops C oi v a) (hC : C w)
    (h : wpHl P md ops Q C D fuel (listed.setIfInBounds i true) (a.put d v) w) : wpHl P md ops Q C D (fuel + 1) listed a w := by
  subst hd
  generalize hReach md ops i ops.size _ = L at hB
  simp only [hHeldB, Bool.and_eq_true, List.all_eq_true, List.mem_range, Bool.or_eq_true, beq_iff_eq, Bool.not_eq_true'] at hB
  obtain ⟨⟨⟨b1, b2⟩, b3⟩, b4⟩ := hB
  refine wpHl.first (R := fun k => L.contains k) hi (Region.noSelect_spec hs) hQ (fun j oj hj hji hall => ?_) (fun j hj => b2 j (by simpa using hj)) b4 fuel listed a w (Region.free_spec hi hf) (fun k hk => ?_) (by simpa using hr) hy hC h
  · rcases b1 j (Array.getElem?_eq_some_iff.1 hj).1 with (e | e) | e
    · exact absurd e hji
    · exact e
    · rw [hj] at e
      simp only [Option.any_some, Array.any_eq_true] at e
      obtain ⟨k, hk, e⟩ := e
      simp only [Bool.and_eq_true, Bool.not_eq_true'] at e
      have := hall _ (Array.getElem_mem hk) e.1
      rw [this] at e
      exact absurd e.2 (by simp)
  · by_cases hlt : k < listed.size
    · rcases b3 k hlt with e | e
      · rw [hk] at e; cases e
      · exact e
    · rw [Array.getD_eq_getD_getElem?, Array.getElem?_eq_none (by omega)] at hk
      cases hk
theorem wpHl.tk0 {i : Nat} {oi : Oper} {d : Option Tmp} {v : Value} {fuel : Nat} {listed : Array Bool} {a : Act} {w : World} (hi : ops[i]? = some oi) (hs : Region.noSelect ops = true) (hfr : (Region.free md ops listed i && (Region.ready md ops listed).contains i) = true)
    (hd : oi.dst = d) (hQ : ∀ c a w, Q (.panic c) (a.put d v) w → Q (.panic c) a w) (hy : YieldsIf P ops C oi v a) (hC : C w)
    (h : wpHl P md ops Q C (fun _ => false) fuel (listed.setIfInBounds i true) (a.put d v) w) : wpHl P md ops Q C (fun _ => false) (fuel + 1) listed a w := by
  subst hd
  simp only [Bool.and_eq_true] at hfr
  have hr : i ∈ Region.ready md ops listed := by simpa using hfr.2
  refine wpHl.first (R := fun k => k != i) hi (Region.noSelect_spec hs) hQ (fun j oj hj hji hall => by simpa using hji) (fun j hj => rfl) rfl fuel listed a w (Region.free_spec hi hfr.1) (fun k hk => ?_) hr hy hC h
  have h1 := (mem_ready.1 hr).1
  simp only [bne_iff_ne, ne_eq]
  rintro rfl
  rcases Nat.lt_or_ge k listed.size with h' | h'
  · simp [Array.getD, h'] at h1 hk
    rw [h1] at hk
    cases hk
  · rw [Array.getD_eq_getD_getElem?, Array.getElem?_eq_none h'] at hk
    cases hk
theorem wpHl.region0 {id : Nat} {a : Act} {w : World} (hm : P.follows .mixedOrders = true) (hs : Region.noSelect ops = true) (h : Region.noSelect ops = true → wpHl P .any ops Q C (fun _ => false) ops.size (Array.replicate ops.size false) a w.drew) : (Code.region id ops true).wp P Q a w :=
  wpHl.region hm (h hs)
theorem wp_call_of {o : Oper} {a : Act} {w : World} {K : Act → World → Prop} {f : FuncId} {args : Array Value} (h : (execOp a.eval o).run P w = .ok (.enter f args) w)
    (hc : Calls P f args w fun
      | .returned v, w'' => K (a.put o.dst v) w''
      | .panicked chain, w'' => Q (.panic chain) a w''
      | .outgrown, _ => LetsOut Q) : Oper.wp P o a w K Q := by
  unfold Oper.wp
  rw [h]
  exact hc
end
end Go.Proofs.YticmlelalbaalaaGreatDoor
