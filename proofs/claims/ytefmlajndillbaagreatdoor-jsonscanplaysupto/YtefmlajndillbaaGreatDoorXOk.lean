/- literals in plain numbers: what is told is a text; what is begun can be gone on with. No Go text is met here. -/
import Derived.Test.YtefmlajndillbaaGreatDoorXTxt
namespace Go.Proofs.YtefmlajndillbaaGreatDoor
set_option linter.unusedVariables false

def xOk : XS → Prop
  | .digs l n h => 1 ≤ l ∧ l ≤ 4 ∧ 0 ≤ n ∧ (l = 4 → n = 0) ∧ (l = 3 → n < 16) ∧ (l = 2 → n < 256) ∧ (l = 1 → n < 4096) ∧
      ((h = 0 ∧ (l = 2 → ¬ (220 ≤ n ∧ n ≤ 223)) ∧ (l = 1 → ¬ (220 ≤ n / 16 ∧ n / 16 ≤ 223))) ∨ ((55296 ≤ h ∧ h ≤ 56319) ∧ (l = 3 → n = 13) ∧ (l = 2 → 220 ≤ n ∧ n ≤ 223) ∧ (l = 1 → 220 ≤ n / 16 ∧ n / 16 ≤ 223)))
  | .second h => 55296 ≤ h ∧ h ≤ 56319
  | .letter h => 55296 ≤ h ∧ h ≤ 56319
  | .byts l lo mo => (1 ≤ l ∧ l ≤ 3) ∧ ((lo = 128 ∧ mo = 191) ∨ (l = 2 ∧ lo = 160 ∧ mo = 191) ∨ (l = 2 ∧ lo = 128 ∧ mo = 159) ∨ (l = 3 ∧ lo = 144 ∧ mo = 191) ∨ (l = 3 ∧ lo = 128 ∧ mo = 143))
  | _ => True
theorem xDig_lt (c : Int) : xDig c < 16 := by unfold xDig; split; omega; split; omega; split <;> omega
theorem xOk_step {σ σ' : XS} {c : Int} {u : List Int} (h : xOk σ) (hs : xStep σ c = some (σ', u)) : xOk σ' := by
  cases σ with
  | start =>
    change (if c = 34 then some (XS.inn, ([] : List Int)) else none) = _ at hs
    split at hs
    · cases hs; trivial
    · cases hs
  | inn =>
    change xIn c = _ at hs
    unfold xIn at hs
    split at hs
    · cases hs; trivial
    · split at hs
      · cases hs; trivial
      · split at hs
        · cases hs
        · split at hs
          · cases hs; trivial
          · cases hs
            rename_i a1 a2 a3 a4
            show _ ∧ _
            unfold xLeft xLow xMost
            split <;> split <;> split <;> (try split) <;> (try split) <;> (try split) <;> omega
  | stroke =>
    change xStr c = _ at hs
    unfold xStr at hs
    split at hs
    · cases hs; trivial
    · split at hs
      · cases hs
        refine ⟨by omega, by omega, by omega, fun _ => rfl, fun e => by omega, fun e => by omega, fun e => by omega, .inl ⟨rfl, fun e => by omega, fun e => by omega⟩⟩
      · cases hs
  | digs l n hh =>
    change xDgs l n hh c = _ at hs
    unfold xDgs at hs
    have hd := xDig_lt c
    obtain ⟨h1, h2, h3, h4, h5, h6, h7, h8⟩ := h
    split at hs
    · cases hs
    · split at hs
      · cases hs
      · rename_i g1 g2
        unfold xBar at g2
        split at hs
        · cases hs
          rename_i g3
          refine ⟨by omega, by omega, by omega, fun e => by omega, fun e => by omega, fun e => by omega, fun e => by omega, ?_⟩
          rcases h8 with h8 | h8
          · exact .inl ⟨h8.1, fun e => by omega, fun e => by omega⟩
          · exact .inr ⟨h8.1, fun e => by omega, fun e => by omega, fun e => by omega⟩
        · have he : σ' = (xEnd (16 * n + xDig c) hh).1 := (congrArg Prod.fst (Option.some.inj hs)).symm
          subst he
          unfold xEnd
          split
          · trivial
          · split
            · rename_i g5; exact g5
            · trivial
  | second hh =>
    change (if c = 92 then some (XS.letter hh, ([] : List Int)) else none) = _ at hs
    split at hs
    · cases hs; exact h
    · cases hs
  | letter hh =>
    change (if c = 117 then some (XS.digs 4 0 hh, ([] : List Int)) else none) = _ at hs
    split at hs
    · cases hs
      refine ⟨by omega, by omega, by omega, fun _ => rfl, fun e => by omega, fun e => by omega, fun e => by omega, .inr ⟨h, fun e => by omega, fun e => by omega, fun e => by omega⟩⟩
    · cases hs
  | byts l lo mo =>
    change xByt l lo mo c = _ at hs
    unfold xByt at hs
    obtain ⟨h1, h2⟩ := h
    split at hs
    · cases hs
    · cases hs
      split
      · trivial
      · show _ ∧ _; omega
  | fin => cases hs
theorem xOk_go {σ σ' : XS} {bs t u : List Int} (h : xOk σ) (hg : xGo σ bs t = some (σ', u)) : xOk σ' := by
  induction bs generalizing σ t with
  | nil => rw [xGo] at hg; cases hg; exact h
  | cons b bs ih =>
    rw [xGo] at hg
    cases hs : xStep σ b with
    | none => rw [hs] at hg; simp at hg
    | some q =>
      obtain ⟨τ, v⟩ := q
      rw [hs] at hg
      simp only at hg
      split at hg
      · cases hg
      · exact ih (xOk_step h hs) hg

/-! ### what is told is a text -/
/-- the text that stands is whole -/
def xWhole : XS → Prop
  | .byts _ _ _ => False
  | _ => True
theorem uEnc_one {p : Int} (h : p < 128) : uEnc p = [p] := by unfold uEnc; rw [if_pos h]
theorem xLet_pt {c : Int} (h : xLet c ≠ -1) : uPt (xLet c) = true ∧ xLet c < 128 := by
  unfold xLet at h ⊢
  split; decide
  split; decide
  split; decide
  split; decide
  split; decide
  split; decide
  split; decide
  split; decide
  simp_all
theorem xRun_text : ∀ (n : Nat) {σ : XS} {l t u : List Int} {k m : Nat}, l.length ≤ n → uByt l → xOk σ → xWhole σ → xRun σ l t k = .ok u m → ∃ ps, uPts ps ∧ u = t ++ uFlat ps := by
  intro n
  induction n with
  | zero =>
    intro σ l t u k m hl _ _ _ h
    have : l = [] := List.length_eq_zero_iff.1 (by omega)
    subst this
    cases h
  | succ n ih =>
    intro σ l t u k m hl hb hok hw h
    cases l with
    | nil => cases h
    | cons c r =>
      have hbr : uByt r := fun x hx => hb x (List.mem_cons_of_mem _ hx)
      have hc := hb c List.mem_cons_self
      have hr : r.length ≤ n := by simpa using hl
      -- one step on, the text told by code points
      have go : ∀ {τ : XS} {v : List Int} {ps : List Int}, xStep σ c = some (τ, v) → xWhole τ → uPts ps → v = uFlat ps → ∃ qs, uPts qs ∧ u = t ++ uFlat qs := by
        intro τ v ps hs hwt hp hv
        by_cases hf : τ = .fin
        · subst hf
          rw [xRun_fin hs] at h
          cases h
          exact ⟨ps, hp, by rw [hv]⟩
        · rw [xRun_step hs hf] at h
          obtain ⟨qs, h1, h2⟩ := ih hr hbr (xOk_step hok hs) hwt h
          exact ⟨ps ++ qs, hp.append h1, by rw [h2, hv, uFlat_append, List.append_assoc]⟩
      have none0 : uPts ([] : List Int) := fun p hp => absurd hp (by simp)
      have one : ∀ {p : Int}, uPt p = true → uPts [p] := fun hp q hq => by simp at hq; rw [hq]; exact hp
      cases hs : xStep σ c with
      | none => rw [xRun_bad hs] at h; cases h
      | some q =>
        obtain ⟨τ, v⟩ := q
        cases σ with
        | start =>
          have hs' := hs
          change (if c = 34 then some (XS.inn, ([] : List Int)) else none) = _ at hs'
          split at hs'
          · cases hs'; exact go hs trivial none0 rfl
          · cases hs'
        | inn =>
          by_cases hd : (uDec (c :: r)).2 = 0
          · have h128 : 128 ≤ c := by
              rcases Int.lt_or_le c 128 with g | g
              · rw [xDec_one hc.1 g] at hd; simp at hd
              · exact g
            -- nothing that is no encoding is gone on with to an end
            exfalso
            obtain ⟨m0, hm0, hm1, hm2⟩ : ∃ m0, m0 ≤ (c :: r).length ∧ (∀ j, j < m0 → xBeg ((c :: r).take (j + 1)) = true) ∧ (m0 < (c :: r).length → xBeg ((c :: r).take (m0 + 1)) = false) := by
              have gen : ∀ d, ∀ j0, j0 + d = (c :: r).length → (∀ j, j < j0 → xBeg ((c :: r).take (j + 1)) = true) → ∃ m0, m0 ≤ (c :: r).length ∧ (∀ j, j < m0 → xBeg ((c :: r).take (j + 1)) = true) ∧ (m0 < (c :: r).length → xBeg ((c :: r).take (m0 + 1)) = false) := by
                intro d
                induction d with
                | zero => intro j0 e hj; exact ⟨j0, by omega, hj, fun g => by omega⟩
                | succ d ihd =>
                  intro j0 e hj
                  cases hx : xBeg ((c :: r).take (j0 + 1)) with
                  | false => exact ⟨j0, by omega, hj, fun _ => hx⟩
                  | true => exact ihd (j0 + 1) (by omega) (fun j g => by
                      rcases Nat.lt_or_ge j j0 with g' | g'
                      · exact hj j g'
                      · rw [show j = j0 by omega]; exact hx)
              exact gen _ 0 (Nat.zero_add _) (fun j hj => absurd hj (by omega))
            obtain ⟨τ', u', hg1, hg2, hg3⟩ := xBegun (t := t) hb hd hm0 hm1 hm2
            rw [← List.take_append_drop m0 (c :: r), xRun_go hg1] at h
            cases hdr : (c :: r).drop m0 with
            | nil => rw [hdr] at h; cases h
            | cons x y => rw [hdr, xRun_bad (hg3 x y hdr)] at h; cases h
          · obtain ⟨hp, hpl, hps⟩ := uDec_cases hb hd
            obtain ⟨⟨p, nn⟩, hD⟩ : ∃ q, uDec (c :: r) = q := ⟨_, rfl⟩
            rw [hD] at hp hpl hps
            simp only at hp hpl hps
            have hq := uPt_iff.1 hp
            have hcp : p < 128 → c = p := fun g => by
              rw [uEnc_one g] at hps
              simp at hps
              exact hps.1
            by_cases g0 : c = 34
            · subst g0
              rw [xIn_quote] at hs; cases hs
              exact go xIn_quote trivial none0 rfl
            · by_cases g1 : c = 92
              · subst g1
                rw [xIn_stroke] at hs; cases hs
                exact go xIn_stroke trivial none0 rfl
              · by_cases g2 : c < 32
                · rw [xIn_none (by omega)] at hs; cases hs
                · have h32 : 32 ≤ p := by
                    by_cases g3 : p < 128
                    · have := hcp g3; omega
                    · omega
                  have hn34 : p ≠ 34 := fun e => by have := hcp (by omega); omega
                  have hn92 : p ≠ 92 := fun e => by have := hcp (by omega); omega
                  have hge := xGo_enc (t := t) hp h32 hn34 hn92
                  rw [hps, xRun_go hge] at h
                  have hpos := uEnc_pos p
                  obtain ⟨qs, h1, h2⟩ := ih (σ := .inn) (l := (c :: r).drop nn) (by rw [List.length_drop]; simp; omega) (hb.drop nn) trivial trivial h
                  exact ⟨p :: qs, uPts.mk hp h1, by rw [h2, uFlat_cons, List.append_assoc]⟩
        | stroke =>
          have hs' := hs
          change xStr c = _ at hs'
          unfold xStr at hs'
          split at hs'
          · rename_i g
            cases hs'
            have := xLet_pt g
            exact go hs trivial (one this.1) (by rw [uFlat_cons, uEnc_one this.2]; rfl)
          · split at hs'
            · cases hs'; exact go hs trivial none0 rfl
            · cases hs'
        | digs l0 n0 h0 =>
          have hs' := hs
          change xDgs l0 n0 h0 c = _ at hs'
          unfold xDgs at hs'
          have hdl := xDig_lt c
          obtain ⟨h1, h2, h3, h4, h5, h6, h7, h8⟩ := hok
          split at hs'
          · cases hs'
          · split at hs'
            · cases hs'
            · rename_i e1 e2
              split at hs'
              · cases hs'; exact go hs trivial none0 rfl
              · rename_i e3
                have el : l0 = 1 := by omega
                subst el
                have hn := h7 rfl
                unfold xEnd at hs'
                split at hs'
                · rename_i e4
                  have hq : uPt (65536 + (h0 - 55296) * 1024 + (16 * n0 + xDig c) - 56320) = true := by
                    rcases h8 with h8 | h8
                    · omega
                    · have := h8.2.2.2 rfl
                      exact uPt_iff.2 (by omega)
                  cases hs'
                  exact go hs trivial (one hq) (by rw [uFlat_cons]; simp [uFlat])
                · split at hs'
                  · cases hs'; exact go hs trivial none0 rfl
                  · rename_i e4 e5
                    have hq : uPt (16 * n0 + xDig c) = true := by
                      rcases h8 with h8 | h8
                      · have := h8.2.2 rfl
                        exact uPt_iff.2 (by omega)
                      · omega
                    cases hs'
                    exact go hs trivial (one hq) (by rw [uFlat_cons]; simp [uFlat])
        | second hh =>
          have hs' := hs
          change (if c = 92 then some (XS.letter hh, ([] : List Int)) else none) = _ at hs'
          split at hs'
          · cases hs'; exact go hs trivial none0 rfl
          · cases hs'
        | letter hh =>
          have hs' := hs
          change (if c = 117 then some (XS.digs 4 0 hh, ([] : List Int)) else none) = _ at hs'
          split at hs'
          · cases hs'; exact go hs trivial none0 rfl
          · cases hs'
        | byts a b d => exact absurd hw (by simp [xWhole])
        | fin => cases hs
theorem xLit_text {l u : List Int} {m : Nat} (hb : uByt l) (h : xRun .start l [] 0 = .ok u m) : ∃ ps, uPts ps ∧ u = uFlat ps := by
  obtain ⟨ps, h1, h2⟩ := xRun_text (σ := .start) l.length (Nat.le_refl _) hb trivial trivial h
  exact ⟨ps, h1, by simpa using h2⟩
/-- what is told is not longer than what is read -/
theorem xRun_len : ∀ {l : List Int} {σ : XS} {t u : List Int} {k m : Nat}, xRun σ l t k = .ok u m → k ≤ m ∧ m ≤ k + l.length := by
  intro l
  induction l with
  | nil => intro σ t u k m h; cases h
  | cons c r ih =>
    intro σ t u k m h
    cases hs : xStep σ c with
    | none => rw [xRun_bad hs] at h; cases h
    | some q =>
      obtain ⟨τ, v⟩ := q
      by_cases hf : τ = .fin
      · subst hf; rw [xRun_fin hs] at h; cases h; simp
      · rw [xRun_step hs hf] at h
        have := ih h
        simp; omega

end Go.Proofs.YtefmlajndillbaaGreatDoor
