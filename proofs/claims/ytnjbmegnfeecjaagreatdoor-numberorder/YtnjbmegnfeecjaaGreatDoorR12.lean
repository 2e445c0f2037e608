/- WInv -/
import Derived.OrdersHeld
import Derived.RegionTactic
namespace Go.Proofs.YtnjbmegnfeecjaaGreatDoor
set_option linter.unusedVariables false
section
variable {P : Program} {ops : Array Oper} {Q : Exit → Act → World → Prop}

/-- every operation waits for earlier ones alone -/
def UpB (ops : Array Oper) : Bool := (List.range ops.size).all fun i => (ops[i]?).any fun o => o.after.all fun e => !Region.binds .any e || decide (e.on < i)

/-- what an operation waits for has come up -/
def MetB (o : Oper) (up : Nat → Bool) : Bool := o.after.all fun e => !Region.binds .any e || up e.on

def upB (listed : Array Bool) (k : Nat) : Bool := listed.getD k false

theorem upB_set {listed : Array Bool} {i k : Nat} (hi : i < listed.size) : upB (listed.setIfInBounds i true) k = (if k = i then true else upB listed k) := by
  unfold upB
  split
  · subst k
    simp [Array.getD, hi]
  · exact getD_set_ne false (by omega)

theorem ready_nil {listed : Array Bool} (hup : UpB ops = true) (hz : listed.size = ops.size) (hr : Region.ready .any ops listed = []) : ∀ i, i < ops.size → upB listed i = true := by
  intro i
  induction i using Nat.strongRecOn with
  | ind i ih =>
    intro hi
    cases h : upB listed i with
    | true => rfl
    | false =>
      exfalso
      have hmem : i ∈ Region.ready .any ops listed := by
        simp only [UpB, List.all_eq_true, List.mem_range] at hup
        have h1 := hup i hi
        rw [mem_ready]
        refine ⟨?_, ops[i], by simp [hi], fun e he hb => ?_⟩
        · unfold upB at h
          simp only [Array.getD, hz, hi, dite_true] at h ⊢
          exact h
        · rw [Array.getElem?_eq_getElem hi] at h1
          simp only [Option.any_some, Array.all_eq_true_iff_forall_mem] at h1
          have h2 := h1 e he
          rw [hb] at h2
          simp only [Bool.not_true, Bool.false_or, decide_eq_true_eq] at h2
          exact ih e.on h2 (by omega)
      rw [hr] at hmem
      cases hmem

theorem wpInv_any (I : (Nat → Bool) → Act → World → Prop) (hup : UpB ops = true)
    (hs : ∀ (up : Nat → Bool) (a : Act) (w : World) (i : Nat) (o : Oper), ops[i]? = some o → I up a w → up i = false → MetB o up = true →
      ∀ K : Act → World → Prop, (∀ (up' : Nat → Bool) a' w', up' i = true → (∀ k, k ≠ i → up' k = up k) → I up' a' w' → K a' w') → if Region.wanted o (yielded ops a.tmps) = true then Oper.wp P o a w K Q else K (a.put o.dst undef) w)
    (hd : ∀ (up : Nat → Bool) (a : Act) (w : World), I up a w → (∀ i, i < ops.size → up i = true) → Q .normal a w) :
    ∀ (fuel : Nat) (listed : Array Bool) (a : Act) (w : World), listed.size = ops.size → listed.toList.count false ≤ fuel → I (upB listed) a w → wpAny P .any ops Q fuel listed a w := by
  intro fuel
  induction fuel with
  | zero =>
    intro listed a w hz hc hI
    have hall : ∀ i, i < ops.size → upB listed i = true := by
      intro i hi
      have h0 : listed.toList.count false = 0 := by omega
      rw [List.count_eq_zero] at h0
      unfold upB
      cases h : listed.getD i false with
      | true => rfl
      | false =>
        exfalso
        apply h0
        have hi' : i < listed.size := by omega
        simp only [Array.getD, hi', dite_true] at h
        rw [← h]
        exact Array.getElem_mem_toList _
    refine ⟨?_, hd _ a w hI hall⟩
    cases hr : Region.ready .any ops listed with
    | nil => rfl
    | cons j l =>
      exfalso
      have hj : j ∈ Region.ready .any ops listed := by rw [hr]; simp
      obtain ⟨h1, o, ho, h2⟩ := mem_ready.1 hj
      have hlt : j < ops.size := (Array.getElem?_eq_some_iff.1 ho).1
      have h3 := hall j hlt
      unfold upB at h3
      simp only [Array.getD, hz, hlt, dite_true] at h1 h3
      rw [h3] at h1
      cases h1
  | succ fuel ih =>
    intro listed a w hz hc hI
    refine ⟨fun hr => hd _ a w hI (ready_nil hup hz hr), fun i hi => ?_⟩
    obtain ⟨h1, o, ho, h2⟩ := mem_ready.1 hi
    have hlt : i < ops.size := (Array.getElem?_eq_some_iff.1 ho).1
    have hlt' : i < listed.size := by omega
    have hf : listed[i] = false := by
      rw [Array.getD_eq_getD_getElem?, Array.getElem?_eq_getElem hlt'] at h1
      simpa using h1
    have hu : upB listed i = false := by
      unfold upB
      rw [Array.getD_eq_getD_getElem?, Array.getElem?_eq_getElem hlt']
      simpa using hf
    refine wpOp_step ho (fun K hK => ?_)
    refine hs (upB listed) a w i o ho hI hu ?_ K (fun up' a' w' k1 k2 hI' => hK a' w' (ih _ a' w' (by simpa using hz) ?_ ?_))
    · unfold MetB
      rw [Array.all_eq_true_iff_forall_mem]
      intro e he
      cases hb : Region.binds .any e with
      | false => rfl
      | true => simpa [upB] using h2 e he hb
    · rw [Array.toList_setIfInBounds, List.count_set (by simpa using hlt')]
      have : listed.toList[i]'(by simpa using hlt') = false := by simpa using hf
      have hpos : 0 < listed.toList.count false := List.count_pos_iff.2 (by rw [← this]; exact List.getElem_mem _)
      rw [if_pos (by rw [this]; rfl), if_neg (by decide)]
      omega
    · have : up' = upB (listed.setIfInBounds i true) := by
        funext k
        rw [upB_set hlt']
        split
        · subst k; exact k1
        · exact k2 k (by assumption)
      rw [← this]
      exact hI'

/-- the region by an invariant over what has come up -/
theorem wpInv {id : Nat} {a : Act} {w : World} (hm : P.follows .mixedOrders = true) (hup : UpB ops = true) (I : (Nat → Bool) → Act → World → Prop)
    (h0 : I (fun _ => false) a w.drew)
    (hs : ∀ (up : Nat → Bool) (a : Act) (w : World) (i : Nat) (o : Oper), ops[i]? = some o → I up a w → up i = false → MetB o up = true →
      ∀ K : Act → World → Prop, (∀ (up' : Nat → Bool) a' w', up' i = true → (∀ k, k ≠ i → up' k = up k) → I up' a' w' → K a' w') → if Region.wanted o (yielded ops a.tmps) = true then Oper.wp P o a w K Q else K (a.put o.dst undef) w)
    (hd : ∀ (up : Nat → Bool) (a : Act) (w : World), I up a w → (∀ i, i < ops.size → up i = true) → Q .normal a w) : (Code.region id ops true).wp P Q a w := by
  refine wp_region_any hm (wpInv_any I hup hs hd ops.size _ a _ (by simp) ?_ ?_)
  · exact Nat.le_trans (List.count_le_length) (by simp)
  · have : upB (Array.replicate ops.size false) = fun _ => false := by
      funext k
      unfold upB
      by_cases hk : k < ops.size <;> simp [Array.getD, hk]
    rw [this]
    exact h0

/-- the same, the activation ahead of the region named in the invariant -/
theorem wpInvA {id : Nat} {a : Act} {w : World} (J : Act → (Nat → Bool) → Act → World → Prop) (hm : P.follows .mixedOrders = true) (hup : UpB ops = true)
    (h0 : J a (fun _ => false) a w.drew)
    (hs : ∀ (up : Nat → Bool) (a' : Act) (w : World) (i : Nat) (o : Oper), ops[i]? = some o → J a up a' w → up i = false → MetB o up = true →
      ∀ K : Act → World → Prop, (∀ (up' : Nat → Bool) a' w', up' i = true → (∀ k, k ≠ i → up' k = up k) → J a up' a' w' → K a' w') → if Region.wanted o (yielded ops a'.tmps) = true then Oper.wp P o a' w K Q else K (a'.put o.dst undef) w)
    (hd : ∀ (up : Nat → Bool) (a' : Act) (w : World), J a up a' w → (∀ i, i < ops.size → up i = true) → Q .normal a' w) : (Code.region id ops true).wp P Q a w :=
  wpInv hm hup (J a) h0 hs hd

end
end Go.Proofs.YtnjbmegnfeecjaaGreatDoor
