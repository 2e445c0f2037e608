/- literals in plain numbers: the one form is not longer than any. No Go text is met here. -/
import Derived.Test.YtegokdhmpopggaaDoorXOk
namespace Go.Proofs.YtegokdhmpopggaaDoor
set_option linter.unusedVariables false

/-- bytes that are read, and not told yet -/
def xOwe : XS → Nat
  | .stroke => 1
  | .digs l _ h => (if h = 0 then 2 else 8) + (4 - l)
  | .second _ => 6
  | .letter _ => 7
  | _ => 0
theorem esc_app (a b : List Int) : ((a ++ b).flatMap xEsc).length = (a.flatMap xEsc).length + (b.flatMap xEsc).length := by
  rw [List.flatMap_append, List.length_append]
theorem esc_one (c : Int) : ([c].flatMap xEsc).length = (xEsc c).length := by simp
theorem esc_high : ∀ {l : List Int}, (∀ x ∈ l, 32 ≤ x ∧ x ≠ 34 ∧ x ≠ 92) → (l.flatMap xEsc).length = l.length := by
  intro l
  induction l with
  | nil => intro _; rfl
  | cons x r ih =>
    intro h
    have hx := h x List.mem_cons_self
    rw [List.flatMap_cons, xEsc_self hx.1 hx.2.1 hx.2.2, List.length_append, ih (fun y hy => h y (List.mem_cons_of_mem _ hy))]
    simp; omega
theorem uEnc_high {p : Int} (h : 128 ≤ p) : ∀ x ∈ uEnc p, 32 ≤ x ∧ x ≠ 34 ∧ x ≠ 92 := by
  intro x
  unfold uEnc
  rw [if_neg (by omega)]
  split
  · simp; omega
  · split
    · simp; omega
    · simp; omega
theorem esc_enc {p : Int} : ((uEnc p).flatMap xEsc).length ≤ 6 := by
  by_cases h : p < 128
  · rw [uEnc_one h, esc_one]; exact (xEsc_len p).2
  · rw [esc_high (uEnc_high (by omega))]; have := uEnc_le p; omega
theorem esc_let {c : Int} (h : xLet c ≠ -1) : (xEsc (xLet c)).length ≤ 2 := by
  unfold xLet at h ⊢
  split; decide
  split; decide
  split; decide
  split; decide
  split; decide
  split; decide
  split; decide
  split; decide
  simp_all
theorem xOwe_step {σ τ : XS} {c : Int} {v : List Int} (h : xOk σ) (hs : xStep σ c = some (τ, v)) (hf : τ ≠ .fin) : (v.flatMap xEsc).length + xOwe τ ≤ 1 + xOwe σ := by
  cases σ with
  | start =>
    change (if c = 34 then some (XS.inn, ([] : List Int)) else none) = _ at hs
    split at hs
    · cases hs; simp [xOwe]
    · cases hs
  | inn =>
    change xIn c = _ at hs
    unfold xIn at hs
    split at hs
    · cases hs; exact absurd rfl hf
    · split at hs
      · cases hs; simp [xOwe]
      · split at hs
        · cases hs
        · rename_i a1 a2 a3
          have e : ([c].flatMap xEsc).length = 1 := by rw [esc_one, xEsc_self (by omega) a1 a2]; rfl
          split at hs
          · cases hs; rw [e]; simp [xOwe]
          · cases hs; rw [e]; simp [xOwe]
  | stroke =>
    change xStr c = _ at hs
    unfold xStr at hs
    split at hs
    · rename_i g
      cases hs
      have := esc_let g
      rw [esc_one]; simp [xOwe]; omega
    · split at hs
      · cases hs; simp [xOwe]
      · cases hs
  | digs l n hh =>
    change xDgs l n hh c = _ at hs
    unfold xDgs at hs
    obtain ⟨h1, h2, h3, h4, h5, h6, h7, h8⟩ := h
    split at hs
    · cases hs
    · split at hs
      · cases hs
      · split at hs
        · cases hs
          simp only [List.flatMap_nil, List.length_nil, xOwe]
          omega
        · rename_i g1 g2 g3
          have el : l = 1 := by omega
          subst el
          unfold xEnd at hs
          split at hs
          · rename_i g4
            cases hs
            have := esc_enc (p := 65536 + (hh - 55296) * 1024 + (16 * n + xDig c) - 56320)
            simp only [xOwe]
            rw [if_neg (by omega)]
            omega
          · split at hs
            · cases hs
              simp only [List.flatMap_nil, List.length_nil, xOwe]
              split <;> omega
            · cases hs
              have := esc_enc (p := 16 * n + xDig c)
              simp only [xOwe]
              split <;> omega
  | second hh =>
    change (if c = 92 then some (XS.letter hh, ([] : List Int)) else none) = _ at hs
    split at hs
    · cases hs; simp [xOwe]
    · cases hs
  | letter hh =>
    change (if c = 117 then some (XS.digs 4 0 hh, ([] : List Int)) else none) = _ at hs
    have hh' : 55296 ≤ hh ∧ hh ≤ 56319 := h
    split at hs
    · cases hs; simp only [List.flatMap_nil, List.length_nil, xOwe]; rw [if_neg (by omega)]; omega
    · cases hs
  | byts l lo mo =>
    change xByt l lo mo c = _ at hs
    unfold xByt at hs
    obtain ⟨h1, h2⟩ := h
    split at hs
    · cases hs
    · rename_i g
      cases hs
      have e : ([c].flatMap xEsc).length = 1 := by rw [esc_one, xEsc_self (by omega) (by omega) (by omega)]; rfl
      rw [e]
      split <;> simp [xOwe]
  | fin => cases hs
theorem xEnd_fin0 (n h : Int) : (xEnd n h).1 ≠ .fin := by unfold xEnd; split; simp; split <;> simp
theorem xRun_owe : ∀ {l : List Int} {σ : XS} {t u : List Int} {k m : Nat}, xOk σ → xRun σ l t k = .ok u m → (u.flatMap xEsc).length + 1 + k ≤ (t.flatMap xEsc).length + xOwe σ + m := by
  intro l
  induction l with
  | nil => intro σ t u k m _ h; cases h
  | cons c r ih =>
    intro σ t u k m ho h
    cases hs : xStep σ c with
    | none => rw [xRun_bad hs] at h; cases h
    | some q =>
      obtain ⟨τ, v⟩ := q
      by_cases hf : τ = .fin
      · subst hf
        rw [xRun_fin hs] at h
        cases h
        have hv : v = [] := by
          cases σ with
          | inn =>
            change xIn c = _ at hs
            unfold xIn at hs
            split at hs
            · cases hs; rfl
            · split at hs
              · cases hs
              · split at hs
                · cases hs
                · split at hs <;> cases hs
          | start => change (if c = 34 then some (XS.inn, ([] : List Int)) else none) = _ at hs; split at hs <;> cases hs
          | stroke =>
            change xStr c = _ at hs
            unfold xStr at hs
            split at hs
            · cases hs
            · split at hs <;> cases hs
          | digs l n hh =>
            change xDgs l n hh c = _ at hs
            unfold xDgs at hs
            split at hs
            · cases hs
            · split at hs
              · cases hs
              · split at hs
                · cases hs
                · exact absurd (congrArg Prod.fst (Option.some.inj hs)) (xEnd_fin0 _ _)
          | second hh => change (if c = 92 then some (XS.letter hh, ([] : List Int)) else none) = _ at hs; split at hs <;> cases hs
          | letter hh => change (if c = 117 then some (XS.digs 4 0 hh, ([] : List Int)) else none) = _ at hs; split at hs <;> cases hs
          | byts l lo mo =>
            change xByt l lo mo c = _ at hs
            unfold xByt at hs
            split at hs
            · cases hs
            · have := congrArg Prod.fst (Option.some.inj hs)
              simp only at this
              split at this <;> cases this
          | fin => cases hs
        subst hv
        rw [List.append_nil]
        omega
      · rw [xRun_step hs hf] at h
        have h1 := ih (xOk_step ho hs) h
        have h2 := xOwe_step ho hs hf
        rw [esc_app] at h1
        omega
theorem xQ_least {l u : List Int} {m : Nat} (h : xRun .start l [] 0 = .ok u m) : (xQ u).length ≤ m ∧ m ≤ l.length := by
  have h2 := xRun_len h
  have e : (xQ u).length = (u.flatMap xEsc).length + 2 := by unfold xQ; rw [List.length_append, List.length_append]; simp only [List.length_cons, List.length_nil]; omega
  cases l with
  | nil => cases h
  | cons c r =>
    by_cases hc : c = 34
    · subst hc
      rw [xRun_step xStart (by simp)] at h
      have h1 := xRun_owe (σ := .inn) trivial h
      simp only [List.flatMap_nil, List.append_nil, List.length_nil, xOwe] at h1
      omega
    · rw [xRun_bad (show xStep .start c = none from if_neg hc)] at h; cases h

end Go.Proofs.YtegokdhmpopggaaDoor
