/- WInv, WHl -/
import Derived.OrdersHeld
import Derived.RegionTactic
namespace Go.Proofs.YticmlelalbaalaaGreatDoor
set_option linter.unusedVariables false
section
variable {P : Program} {ops : Array Oper} {Q : Exit → Act → World → Prop}

/-- every operation waits for earlier ones alone -/
def UpB (ops : Array Oper) : Bool := (List.range ops.size).all fun i => (ops[i]?).any fun o => o.after.all fun e => !Region.binds .any e || decide (e.on < i)

/-- what an operation waits for has come up -/
def MetB (o : Oper) (up : Nat → Bool) : Bool := o.after.all fun e => !Region.binds .any e || up e.on

def upB (listed : Array Bool) (k : Nat) : Bool := listed.getD k false

theorem upB_set {listed : Array Bool} {i k : Nat} (hi : i < listed.size) : upB (listed.setIfInBounds i true) k = (if k = i then true else upB listed k) := by
  unfold upB
  split
  · subst k
    simp [Array.getD, hi]
  · exact getD_set_ne false (by omega)

theorem ready_nil {listed : Array Bool} (hup : UpB ops = true) (hz : listed.size = ops.size) (hr : Region.ready .any ops listed = []) : ∀ i, i < ops.size → upB listed i = true := by
  intro i
  induction i using Nat.strongRecOn with
  | ind i ih =>
    intro hi
    cases h : upB listed i with
    | true => rfl
    | false =>
      exfalso
      have hmem : i ∈ Region.ready .any ops listed := by
        simp only [UpB, List.all_eq_true, List.mem_range] at hup
        have h1 := hup i hi
        rw [mem_ready]
        refine ⟨?_, ops[i], by simp [hi], fun e he hb => ?_⟩
        · unfold upB at h
          simp only [Array.getD, hz, hi, dite_true] at h ⊢
          exact h
        · rw [Array.getElem?_eq_getElem hi] at h1
          simp only [Option.any_some, Array.all_eq_true_iff_forall_mem] at h1
          have h2 := h1 e he
          rw [hb] at h2
          simp only [Bool.not_true, Bool.false_or, decide_eq_true_eq] at h2
          exact ih e.on h2 (by omega)
      rw [hr] at hmem
      cases hmem

theorem wpInv_any (I : (Nat → Bool) → Act → World → Prop) (hup : UpB ops = true)
    (hs : ∀ (up : Nat → Bool) (a : Act) (w : World) (i : Nat) (o : Oper), ops[i]? = some o → I up a w → up i = false → MetB o up = true →
      ∀ K : Act → World → Prop, (∀ (up' : Nat → Bool) a' w', up' i = true → (∀ k, k ≠ i → up' k = up k) → I up' a' w' → K a' w') → if Region.wanted o (yielded ops a.tmps) = true then Oper.wp P o a w K Q else K (a.put o.dst undef) w)
    (hd : ∀ (up : Nat → Bool) (a : Act) (w : World), I up a w → (∀ i, i < ops.size → up i = true) → Q .normal a w) :
    ∀ (fuel : Nat) (listed : Array Bool) (a : Act) (w : World), listed.size = ops.size → listed.toList.count false ≤ fuel → I (upB listed) a w → wpAny P .any ops Q fuel listed a w := by
  intro fuel
  induction fuel with
  | zero =>
    intro listed a w hz hc hI
    have hall : ∀ i, i < ops.size → upB listed i = true := by
      intro i hi
      have h0 : listed.toList.count false = 0 := by omega
      rw [List.count_eq_zero] at h0
      unfold upB
      cases h : listed.getD i false with
      | true => rfl
      | false =>
        exfalso
        apply h0
        have hi' : i < listed.size := by omega
        simp only [Array.getD, hi', dite_true] at h
        rw [← h]
        exact Array.getElem_mem_toList _
    refine ⟨?_, hd _ a w hI hall⟩
    cases hr : Region.ready .any ops listed with
    | nil => rfl
    | cons j l =>
      exfalso
      have hj : j ∈ Region.ready .any ops listed := by rw [hr]; simp
      obtain ⟨h1, o, ho, h2⟩ := mem_ready.1 hj
      have hlt : j < ops.size := (Array.getElem?_eq_some_iff.1 ho).1
      have h3 := hall j hlt
      unfold upB at h3
      simp only [Array.getD, hz, hlt, dite_true] at h1 h3
      rw [h3] at h1
      cases h1
  | succ fuel ih =>
    intro listed a w hz hc hI
    refine ⟨fun hr => hd _ a w hI (ready_nil hup hz hr), fun i hi => ?_⟩
    obtain ⟨h1, o, ho, h2⟩ := mem_ready.1 hi
    have hlt : i < ops.size := (Array.getElem?_eq_some_iff.1 ho).1
    have hlt' : i < listed.size := by omega
    have hf : listed[i] = false := by
      rw [Array.getD_eq_getD_getElem?, Array.getElem?_eq_getElem hlt'] at h1
      simpa using h1
    have hu : upB listed i = false := by
      unfold upB
      rw [Array.getD_eq_getD_getElem?, Array.getElem?_eq_getElem hlt']
      simpa using hf
    refine wpOp_step ho (fun K hK => ?_)
    refine hs (upB listed) a w i o ho hI hu ?_ K (fun up' a' w' k1 k2 hI' => hK a' w' (ih _ a' w' (by simpa using hz) ?_ ?_))
    · unfold MetB
      rw [Array.all_eq_true_iff_forall_mem]
      intro e he
      cases hb : Region.binds .any e with
      | false => rfl
      | true => simpa [upB] using h2 e he hb
    · rw [Array.toList_setIfInBounds, List.count_set (by simpa using hlt')]
      have : listed.toList[i]'(by simpa using hlt') = false := by simpa using hf
      have hpos : 0 < listed.toList.count false := List.count_pos_iff.2 (by rw [← this]; exact List.getElem_mem _)
      rw [if_pos (by rw [this]; rfl), if_neg (by decide)]
      omega
    · have : up' = upB (listed.setIfInBounds i true) := by
        funext k
        rw [upB_set hlt']
        split
        · subst k; exact k1
        · exact k2 k (by assumption)
      rw [← this]
      exact hI'

/-- the region by an invariant over what has come up -/
theorem wpInv {id : Nat} {a : Act} {w : World} (hm : P.follows .mixedOrders = true) (hup : UpB ops = true) (I : (Nat → Bool) → Act → World → Prop)
    (h0 : I (fun _ => false) a w.drew)
    (hs : ∀ (up : Nat → Bool) (a : Act) (w : World) (i : Nat) (o : Oper), ops[i]? = some o → I up a w → up i = false → MetB o up = true →
      ∀ K : Act → World → Prop, (∀ (up' : Nat → Bool) a' w', up' i = true → (∀ k, k ≠ i → up' k = up k) → I up' a' w' → K a' w') → if Region.wanted o (yielded ops a.tmps) = true then Oper.wp P o a w K Q else K (a.put o.dst undef) w)
    (hd : ∀ (up : Nat → Bool) (a : Act) (w : World), I up a w → (∀ i, i < ops.size → up i = true) → Q .normal a w) : (Code.region id ops true).wp P Q a w := by
  refine wp_region_any hm (wpInv_any I hup hs hd ops.size _ a _ (by simp) ?_ ?_)
  · exact Nat.le_trans (List.count_le_length) (by simp)
  · have : upB (Array.replicate ops.size false) = fun _ => false := by
      funext k
      unfold upB
      by_cases hk : k < ops.size <;> simp [Array.getD, hk]
    rw [this]
    exact h0

/-- the same, the activation ahead of the region named in the invariant -/
theorem wpInvA {id : Nat} {a : Act} {w : World} (J : Act → (Nat → Bool) → Act → World → Prop) (hm : P.follows .mixedOrders = true) (hup : UpB ops = true)
    (h0 : J a (fun _ => false) a w.drew)
    (hs : ∀ (up : Nat → Bool) (a' : Act) (w : World) (i : Nat) (o : Oper), ops[i]? = some o → J a up a' w → up i = false → MetB o up = true →
      ∀ K : Act → World → Prop, (∀ (up' : Nat → Bool) a' w', up' i = true → (∀ k, k ≠ i → up' k = up k) → J a up' a' w' → K a' w') → if Region.wanted o (yielded ops a'.tmps) = true then Oper.wp P o a' w K Q else K (a'.put o.dst undef) w)
    (hd : ∀ (up : Nat → Bool) (a' : Act) (w : World), J a up a' w → (∀ i, i < ops.size → up i = true) → Q .normal a' w) : (Code.region id ops true).wp P Q a w :=
  wpInv hm hup (J a) h0 hs hd

end
end Go.Proofs.YticmlelalbaalaaGreatDoor

namespace Go.Proofs.YticmlelalbaalaaGreatDoor

set_option linter.unusedVariables false
section
variable {P : Program} {ops : Array Oper} {Q : Exit → Act → World → Prop} {md : Region.Mode} {C : World → Prop} {D : Nat → Bool}

/-- whatever order is picked; C holds behind every operation that is none of D -/
def wpHl (P : Program) (md : Region.Mode) (ops : Array Oper) (Q : Exit → Act → World → Prop) (C : World → Prop) (D : Nat → Bool) : Nat → Array Bool → Act → World → Prop
  | 0, listed, a, w => Region.ready md ops listed = [] ∧ Q .normal a w
  | fuel + 1, listed, a, w => (Region.ready md ops listed = [] → Q .normal a w) ∧
    ∀ i ∈ Region.ready md ops listed, wpOp P ops Q i (fun a' w' => (D i = false → C w') ∧ wpHl P md ops Q C D fuel (listed.setIfInBounds i true) a' w') a w
theorem wpHl.any : ∀ (fuel : Nat) (listed : Array Bool) (a : Act) (w : World), wpHl P md ops Q C D fuel listed a w → wpAny P md ops Q fuel listed a w
  | 0, _, _, _, h => h
  | fuel + 1, _, _, _, h => ⟨h.1, fun i hi => wpOp_mono (fun a' w' k => wpHl.any fuel _ a' w' k.2) (h.2 i hi)⟩
theorem wpHl.region {id : Nat} {a : Act} {w : World} (hm : P.follows .mixedOrders = true) (h : wpHl P .any ops Q C D ops.size (Array.replicate ops.size false) a w.drew) : (Code.region id ops true).wp P Q a w :=
  wp_region_any hm (wpHl.any _ _ _ _ h)
theorem wpHl.done {listed : Array Bool} {a : Act} {w : World} (hr : Region.ready md ops listed = []) (h : Q .normal a w) : ∀ fuel, wpHl P md ops Q C D fuel listed a w
  | 0 => ⟨hr, h⟩
  | _ + 1 => ⟨fun _ => h, by rw [hr]; simp⟩
theorem wpHl.one {i : Nat} {fuel : Nat} {listed : Array Bool} {a : Act} {w : World} {o : Oper} (hr : Region.ready md ops listed = [i]) (ho : ops[i]? = some o)
    (h : ∀ K : Act → World → Prop, (∀ a' w', (D i = false → C w') ∧ wpHl P md ops Q C D fuel (listed.setIfInBounds i true) a' w' → K a' w') → if Region.wanted o (yielded ops a.tmps) = true then Oper.wp P o a w K Q else K (a.put o.dst undef) w) :
    wpHl P md ops Q C D (fuel + 1) listed a w :=
  ⟨fun h0 => (by rw [hr] at h0; cases h0), fun j hj => by
    rw [hr, List.mem_singleton] at hj
    subst hj
    exact wpOp_step ho h⟩
/-- an operation that may come up is taken first, if none of D can come ahead of it -/
theorem wpHl.first {i : Nat} {oi : Oper} {v : Value} {R : Nat → Bool} (hi : ops[i]? = some oi) (hsel : ∀ (j : Nat) (o : Oper) cs b, ops[j]? = some o → o.op ≠ .select cs b)
    (hQ : ∀ c a w, Q (.panic c) (a.put oi.dst v) w → Q (.panic c) a w) (hR : ∀ j oj, ops[j]? = some oj → j ≠ i → (∀ e ∈ oj.after, Region.binds md e = true → R e.on = true) → R j = true) (hD : ∀ j, R j = true → D j = false) (hDi : D i = false) :
    ∀ (fuel : Nat) (listed : Array Bool) (a : Act) (w : World), (∀ j oj, ops[j]? = some oj → j ≠ i → listed.getD j true = false → (∀ e ∈ oj.after, Region.binds md e = true → e.on ≠ i) → oi.apart ops oj = true) →
      (∀ k, listed.getD k false = true → R k = true) → i ∈ Region.ready md ops listed → YieldsIf P ops C oi v a → C w →
      wpHl P md ops Q C D fuel (listed.setIfInBounds i true) (a.put oi.dst v) w → wpHl P md ops Q C D (fuel + 1) listed a w := by
  intro fuel
  induction fuel with
  | zero =>
    intro listed a w _ _ hr hy hC H
    refine ⟨fun h => (by rw [h] at hr; cases hr), fun j hj => ?_⟩
    by_cases hji : j = i
    · subst hji
      exact hy.wpOp hi hC ⟨fun _ => hC, H⟩
    · have := ready_mono hj hji
      rw [H.1] at this
      cases this
  | succ fuel ih =>
    intro listed a w hfree hl hr hy hC H
    refine ⟨fun h => (by rw [h] at hr; cases hr), fun j hj => ?_⟩
    by_cases hji : j = i
    · subst hji
      exact hy.wpOp hi hC ⟨fun _ => hC, H⟩
    · obtain ⟨hjun, oj, hoj, hall⟩ := mem_ready.1 hj
      have hiun := (mem_ready.1 hr).1
      have hnot : ∀ e ∈ oj.after, Region.binds md e = true → e.on ≠ i := fun e he hb heq => by
        have h1 := hall e he hb
        rw [heq] at h1
        rcases Nat.lt_or_ge i listed.size with h' | h'
        · simp [h'] at hiun h1
          rw [hiun] at h1
          cases h1
        · simp [Array.getElem?_eq_none h'] at h1
      have hap := hfree j oj hoj hji hjun hnot
      have hRj : R j = true := hR j oj hoj hji (fun e he hb => hl _ (hall e he hb))
      have h2 := wpOp_putIf hoj hap (fun cs b => hsel i oi cs b hi) (fun cs b => hsel j oj cs b hoj) hQ hy (H.2 j (ready_mono hj hji))
      refine wpOp_mono (fun a' w' k => ?_) h2
      obtain ⟨hb, hc, hk⟩ := k
      refine ⟨hc, ih (listed.setIfInBounds j true) a' w' (fun k ok hk' hki hun hno => hfree k ok hk' hki ?_ hno) (fun k hk' => ?_) (ready_mono hr (Ne.symm hji)) hb (hc (hD j hRj)) ?_⟩
      · by_cases hjk : j = k
        · subst hjk; exact hjun
        · rw [getD_set_ne true hjk] at hun; exact hun
      · by_cases hjk : j = k
        · subst hjk; exact hRj
        · rw [getD_set_ne false hjk] at hk'; exact hl k hk'
      · rw [Array.setIfInBounds_comm _ _ hji]
        exact hk
/-- once all but D's have come up, another word may be held -/
theorem wpHl.change {C' : World → Prop} {D' : Nat → Bool} : ∀ (fuel : Nat) (listed : Array Bool) (a : Act) (w : World), (∀ i, D i = false → listed.getD i true = true) → wpHl P md ops Q C' D' fuel listed a w → wpHl P md ops Q C D fuel listed a w
  | 0, _, _, _, _, h => h
  | fuel + 1, listed, a, w, hl, h => by
    refine ⟨h.1, fun i hi => wpOp_mono (fun a' w' k => ?_) (h.2 i hi)⟩
    have h1 := (mem_ready.1 hi).1
    refine ⟨fun hd => ?_, wpHl.change fuel _ a' w' (fun j hj => ?_) k.2⟩
    · rw [hl i hd] at h1
      cases h1
    · by_cases hij : i = j
      · subst hij
        rw [hl i hj] at h1
        cases h1
      · rw [getD_set_ne true hij]
        exact hl j hj
/-- what can come up while number i does not -/
def hReach (md : Region.Mode) (ops : Array Oper) (i : Nat) : Nat → List Nat → List Nat
  | 0, L => L
  | k + 1, L => hReach md ops i k ((List.range ops.size).filter fun j => L.contains j || (j != i && (ops[j]?).any (fun o => o.after.all fun e => !Region.binds md e || L.contains e.on)))
def hHeldB (md : Region.Mode) (ops : Array Oper) (D : Nat → Bool) (listed : Array Bool) (i : Nat) (L : List Nat) : Bool :=
  (List.range ops.size).all (fun j => j == i || L.contains j || (ops[j]?).any (fun o => o.after.any fun e => Region.binds md e && !L.contains e.on)) && L.all (fun j => !D j) && (List.range listed.size).all (fun k => !listed.getD k false || L.contains k) && !D i
theorem wpHl.tk {i : Nat} {oi : Oper} {d : Option Tmp} {v : Value} {fuel : Nat} {listed : Array Bool} {a : Act} {w : World} (hi : ops[i]? = some oi) (hs : Region.noSelect ops = true) (hf : Region.free md ops listed i = true) (hr : (Region.ready md ops listed).contains i = true)
    (hB : hHeldB md ops D listed i (hReach md ops i ops.size ((List.range listed.size).filter fun k => listed.getD k false)) = true) (hd : oi.dst = d) (hQ : ∀ c a w, Q (.panic c) (a.put d v) w → Q (.panic c) a w) (hy : YieldsIf P ops C oi v a) (hC : C w)
    (h : wpHl P md ops Q C D fuel (listed.setIfInBounds i true) (a.put d v) w) : wpHl P md ops Q C D (fuel + 1) listed a w := by
  subst hd
  generalize hReach md ops i ops.size _ = L at hB
  simp only [hHeldB, Bool.and_eq_true, List.all_eq_true, List.mem_range, Bool.or_eq_true, beq_iff_eq, Bool.not_eq_true'] at hB
  obtain ⟨⟨⟨b1, b2⟩, b3⟩, b4⟩ := hB
  refine wpHl.first (R := fun k => L.contains k) hi (Region.noSelect_spec hs) hQ (fun j oj hj hji hall => ?_) (fun j hj => b2 j (by simpa using hj)) b4 fuel listed a w (Region.free_spec hi hf) (fun k hk => ?_) (by simpa using hr) hy hC h
  · rcases b1 j (Array.getElem?_eq_some_iff.1 hj).1 with (e | e) | e
    · exact absurd e hji
    · exact e
    · rw [hj] at e
      simp only [Option.any_some, Array.any_eq_true] at e
      obtain ⟨k, hk, e⟩ := e
      simp only [Bool.and_eq_true, Bool.not_eq_true'] at e
      have := hall _ (Array.getElem_mem hk) e.1
      rw [this] at e
      exact absurd e.2 (by simp)
  · by_cases hlt : k < listed.size
    · rcases b3 k hlt with e | e
      · rw [hk] at e; cases e
      · exact e
    · rw [Array.getD_eq_getD_getElem?, Array.getElem?_eq_none (by omega)] at hk
      cases hk

/-- nothing is in D: an operation that may come up is taken first -/
theorem wpHl.tk0 {i : Nat} {oi : Oper} {d : Option Tmp} {v : Value} {fuel : Nat} {listed : Array Bool} {a : Act} {w : World} (hi : ops[i]? = some oi) (hs : Region.noSelect ops = true) (hfr : (Region.free md ops listed i && (Region.ready md ops listed).contains i) = true)
    (hd : oi.dst = d) (hQ : ∀ c a w, Q (.panic c) (a.put d v) w → Q (.panic c) a w) (hy : YieldsIf P ops C oi v a) (hC : C w)
    (h : wpHl P md ops Q C (fun _ => false) fuel (listed.setIfInBounds i true) (a.put d v) w) : wpHl P md ops Q C (fun _ => false) (fuel + 1) listed a w := by
  subst hd
  simp only [Bool.and_eq_true] at hfr
  have hr : i ∈ Region.ready md ops listed := by simpa using hfr.2
  refine wpHl.first (R := fun k => k != i) hi (Region.noSelect_spec hs) hQ (fun j oj hj hji hall => by simpa using hji) (fun j hj => rfl) rfl fuel listed a w (Region.free_spec hi hfr.1) (fun k hk => ?_) hr hy hC h
  have h1 := (mem_ready.1 hr).1
  simp only [bne_iff_ne, ne_eq]
  rintro rfl
  rcases Nat.lt_or_ge k listed.size with h' | h'
  · simp [Array.getD, h'] at h1 hk
    rw [h1] at hk
    cases hk
  · rw [Array.getD_eq_getD_getElem?, Array.getElem?_eq_none h'] at hk
    cases hk
theorem wpHl.region0 {id : Nat} {a : Act} {w : World} (hm : P.follows .mixedOrders = true) (hs : Region.noSelect ops = true) (h : Region.noSelect ops = true → wpHl P .any ops Q C (fun _ => false) ops.size (Array.replicate ops.size false) a w.drew) : (Code.region id ops true).wp P Q a w :=
  wpHl.region hm (h hs)
/-- a call, its arguments named -/
theorem wp_call_of {o : Oper} {a : Act} {w : World} {K : Act → World → Prop} {f : FuncId} {args : Array Value} (h : (execOp a.eval o).run P w = .ok (.enter f args) w)
    (hc : Calls P f args w fun
      | .returned v, w'' => K (a.put o.dst v) w''
      | .panicked chain, w'' => Q (.panic chain) a w''
      | .outgrown, _ => LetsOut Q) : Oper.wp P o a w K Q := by
  unfold Oper.wp
  rw [h]
  exact hc

end
end Go.Proofs.YticmlelalbaalaaGreatDoor
