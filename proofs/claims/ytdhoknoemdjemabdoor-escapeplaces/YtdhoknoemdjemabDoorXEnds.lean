/- literals in plain numbers: what is begun can be gone on with. No Go text is met here. -/
import Derived.Test.YtdhoknoemdjemabDoorXOk
namespace Go.Proofs.YtdhoknoemdjemabDoor
set_option linter.unusedVariables false

def xEnds : List (List Int) := [[34, 34], [34], [110, 34], [48, 48, 48, 48, 34], [48, 48, 48, 34], [48, 48, 34], [48, 34], [48, 48, 92, 117, 100, 99, 48, 48, 34], [48, 92, 117, 100, 99, 48, 48, 34], [92, 117, 100, 99, 48, 48, 34], [117, 100, 99, 48, 48, 34], [100, 99, 48, 48, 34], [99, 48, 48, 34], [128, 34], [128, 128, 34], [160, 128, 34], [144, 128, 128, 34], [128, 128, 128, 34]]
def xWell (l : List Int) : Bool := match xRun .start l [] 0 with | .ok _ n => n == l.length | .bad _ => false
def xGoes (l : List Int) : Bool := xEnds.any fun e => xWell (l ++ e)
/-- to the end, by these bytes -/
def xBy (τ : XS) (e : List Int) : Prop := ∀ (t : List Int) (k : Nat), ∃ u, xRun τ e t k = .ok u (k + e.length)
theorem xBy.fin {τ : XS} {c : Int} {u : List Int} (h : xStep τ c = some (.fin, u)) : xBy τ [c] := fun t k => ⟨_, xRun_fin h⟩
theorem xBy.step {τ ρ : XS} {c : Int} {u e : List Int} (h : xStep τ c = some (ρ, u)) (hf : ρ ≠ .fin) (g : xBy ρ e) : xBy τ (c :: e) := fun t k => by
  obtain ⟨v, hv⟩ := g (t ++ u) (k + 1)
  exact ⟨v, by rw [xRun_step h hf, hv, List.length_cons]; congr 1; omega⟩
theorem by_inn : xBy .inn [34] := xBy.fin xIn_quote
theorem xDg (d c n h : Int) (l : Nat) (hc : xDig c = d) (hd : 0 ≤ d) (hb : ¬ xBar (l - 1) (16 * n + d) h) (hl : 2 ≤ l) : xStep (.digs l n h) c = some (.digs (l - 1) (16 * n + d) h, []) := by
  show xDgs l n h c = _
  unfold xDgs; rw [hc, if_neg (by omega), if_neg hb, if_pos (by omega)]
theorem xDg1 (d c n h : Int) (hc : xDig c = d) (hd : 0 ≤ d) : xStep (.digs 1 n h) c = some (xEnd (16 * n + d) h) := by
  show xDgs 1 n h c = _
  unfold xDgs; rw [hc, if_neg (by omega), if_neg (by unfold xBar; omega), if_neg (by decide)]
theorem xEnd_two {n h : Int} (hh : 0 < h) : xEnd n h = (.inn, uEnc (65536 + (h - 55296) * 1024 + n - 56320)) := by unfold xEnd; rw [if_pos hh]
theorem xEnd_half {n : Int} (h1 : 55296 ≤ n) (h2 : n ≤ 56319) : xEnd n 0 = (.second n, []) := by unfold xEnd; rw [if_neg (by omega), if_pos ⟨h1, h2⟩]
theorem xEnd_one {n : Int} (h1 : ¬ (55296 ≤ n ∧ n ≤ 56319)) : xEnd n 0 = (.inn, uEnc n) := by unfold xEnd; rw [if_neg (by omega), if_neg h1]
theorem by_d1h {n h : Int} (hh : 0 < h) : xBy (.digs 1 n h) [48, 34] := xBy.step ((xDg1 0 48 n h (by decide) (by decide)).trans (by rw [xEnd_two hh])) (by simp) by_inn
theorem by_d2h {n h : Int} (hh : 0 < h) : xBy (.digs 2 n h) [48, 48, 34] := xBy.step (xDg 0 48 n h 2 (by decide) (by decide) (by unfold xBar; omega) (by decide)) (by simp) (by_d1h hh)
theorem by_d3h {h : Int} (hh : 0 < h) : xBy (.digs 3 13 h) [99, 48, 48, 34] := xBy.step (xDg 12 99 13 h 3 (by decide) (by decide) (by unfold xBar; omega) (by decide)) (by simp) (by_d2h hh)
theorem by_d4h {h : Int} (hh : 0 < h) : xBy (.digs 4 0 h) [100, 99, 48, 48, 34] := xBy.step (xDg 13 100 0 h 4 (by decide) (by decide) (by unfold xBar; omega) (by decide)) (by simp) (by_d3h hh)
theorem by_letter {h : Int} (hh : 0 < h) : xBy (.letter h) [117, 100, 99, 48, 48, 34] := xBy.step (ρ := .digs 4 0 h) (u := []) rfl (by simp) (by_d4h hh)
theorem by_second {h : Int} (hh : 0 < h) : xBy (.second h) [92, 117, 100, 99, 48, 48, 34] := xBy.step (ρ := .letter h) (u := []) rfl (by simp) (by_letter hh)
theorem by_d1 {n : Int} (h0 : 0 ≤ n) (h1 : n < 4096) : xBy (.digs 1 n 0) [48, 34] ∨ xBy (.digs 1 n 0) [48, 92, 117, 100, 99, 48, 48, 34] := by
  by_cases g : 55296 ≤ 16 * n + 0 ∧ 16 * n + 0 ≤ 56319
  · exact .inr (xBy.step ((xDg1 0 48 n 0 (by decide) (by decide)).trans (by rw [xEnd_half g.1 g.2])) (by simp) (by_second (by omega)))
  · exact .inl (xBy.step ((xDg1 0 48 n 0 (by decide) (by decide)).trans (by rw [xEnd_one g])) (by simp) by_inn)
theorem by_d2 {n : Int} (h0 : 0 ≤ n) (h1 : n < 256) (hn : ¬ (220 ≤ n ∧ n ≤ 223)) : xBy (.digs 2 n 0) [48, 48, 34] ∨ xBy (.digs 2 n 0) [48, 48, 92, 117, 100, 99, 48, 48, 34] := by
  have hs := xDg 0 48 n 0 2 (by decide) (by decide) (by unfold xBar; omega) (by decide)
  rcases by_d1 (n := 16 * n + 0) (by omega) (by omega) with g | g
  · exact .inl (xBy.step hs (by simp) g)
  · exact .inr (xBy.step hs (by simp) g)
theorem by_d3 {n : Int} (h0 : 0 ≤ n) (h1 : n < 16) : xBy (.digs 3 n 0) [48, 48, 48, 34] := by
  have hs := xDg 0 48 n 0 3 (by decide) (by decide) (by unfold xBar; omega) (by decide)
  have hs2 := xDg 0 48 (16 * n + 0) 0 2 (by decide) (by decide) (by unfold xBar; omega) (by decide)
  have g : ¬ (55296 ≤ 16 * (16 * (16 * n + 0) + 0) + 0 ∧ 16 * (16 * (16 * n + 0) + 0) + 0 ≤ 56319) := by omega
  exact xBy.step hs (by simp) (xBy.step hs2 (by simp) (xBy.step ((xDg1 0 48 _ 0 (by decide) (by decide)).trans (by rw [xEnd_one g])) (by simp) by_inn))
theorem by_d4 : xBy (.digs 4 0 0) [48, 48, 48, 48, 34] := xBy.step (xDg 0 48 0 0 4 (by decide) (by decide) (by unfold xBar; omega) (by decide)) (by simp) (by_d3 (by omega) (by omega))
theorem by_b1 : xBy (.byts 1 128 191) [128, 34] := xBy.step (xByt_last (by omega)) (by simp) by_inn
theorem by_b2 {lo mo c : Int} (h : lo ≤ c ∧ c ≤ mo) : xBy (.byts 2 lo mo) [c, 128, 34] := xBy.step (xByt_yes h (by decide)) (by simp) by_b1
theorem by_b3 {lo mo c : Int} (h : lo ≤ c ∧ c ≤ mo) : xBy (.byts 3 lo mo) [c, 128, 128, 34] := xBy.step (xByt_yes h (by decide)) (by simp) (by_b2 (by omega))
/-- some end ends it -/
theorem xBy_some {τ : XS} (h : xOk τ) (hf : τ ≠ .fin) : ∃ e ∈ xEnds, xBy τ e := by
  cases τ with
  | start => exact ⟨[34, 34], by decide, xBy.step xStart (by simp) by_inn⟩
  | inn => exact ⟨[34], by decide, by_inn⟩
  | stroke => exact ⟨[110, 34], by decide, xBy.step (xStr_let (c := 110) (by decide)) (by simp) by_inn⟩
  | digs l n hh =>
    obtain ⟨h1, h2, h3, h4, h5, h6, h7, h8⟩ := h
    rcases h8 with ⟨rfl, h8, h9⟩ | ⟨h8, h9, h10, h11⟩
    · rcases (by omega : l = 1 ∨ l = 2 ∨ l = 3 ∨ l = 4) with rfl | rfl | rfl | rfl
      · rcases by_d1 h3 (h7 rfl) with g | g
        · exact ⟨_, by decide, g⟩
        · exact ⟨_, by decide, g⟩
      · rcases by_d2 h3 (h6 rfl) (h8 rfl) with g | g
        · exact ⟨_, by decide, g⟩
        · exact ⟨_, by decide, g⟩
      · exact ⟨_, by decide, by_d3 h3 (h5 rfl)⟩
      · obtain rfl := h4 rfl
        exact ⟨_, by decide, by_d4⟩
    · have hp : 0 < hh := by omega
      rcases (by omega : l = 1 ∨ l = 2 ∨ l = 3 ∨ l = 4) with rfl | rfl | rfl | rfl
      · exact ⟨_, by decide, by_d1h hp⟩
      · exact ⟨_, by decide, by_d2h hp⟩
      · obtain rfl := h9 rfl
        exact ⟨_, by decide, by_d3h hp⟩
      · obtain rfl := h4 rfl
        exact ⟨_, by decide, by_d4h hp⟩
  | second hh => exact ⟨_, by decide, by_second (by have : 55296 ≤ hh ∧ hh ≤ 56319 := h; omega)⟩
  | letter hh => exact ⟨_, by decide, by_letter (by have : 55296 ≤ hh ∧ hh ≤ 56319 := h; omega)⟩
  | byts l lo mo =>
    obtain ⟨h1, h2⟩ := h
    rcases (by omega : l = 1 ∨ l = 2 ∨ l = 3) with rfl | rfl | rfl
    · obtain ⟨rfl, rfl⟩ : lo = 128 ∧ mo = 191 := by omega
      exact ⟨_, by decide, by_b1⟩
    · by_cases g : lo = 160
      · exact ⟨[160, 128, 34], by decide, by_b2 (by omega)⟩
      · exact ⟨[128, 128, 34], by decide, by_b2 (by omega)⟩
    · by_cases g : lo = 144
      · exact ⟨[144, 128, 128, 34], by decide, by_b3 (by omega)⟩
      · exact ⟨[128, 128, 128, 34], by decide, by_b3 (by omega)⟩
  | fin => exact absurd rfl hf
theorem xGo_nofin {σ τ : XS} {bs t u : List Int} (hσ : σ ≠ .fin) (h : xGo σ bs t = some (τ, u)) : τ ≠ .fin := by
  induction bs generalizing σ t with
  | nil => rw [xGo] at h; cases h; exact hσ
  | cons b bs ih =>
    rw [xGo] at h
    cases hs : xStep σ b with
    | none => rw [hs] at h; simp at h
    | some q =>
      obtain ⟨ρ, v⟩ := q
      rw [hs] at h
      simp only at h
      split at h
      · cases h
      · rename_i g; exact ih g h
/-- a beginning can be gone on with -/
theorem xGoes_go {l u : List Int} {τ : XS} (h : xGo .start l [] = some (τ, u)) : xGoes l = true := by
  obtain ⟨e, he, hb⟩ := xBy_some (xOk_go (σ := .start) trivial h) (xGo_nofin (by simp) h)
  unfold xGoes
  rw [List.any_eq_true]
  refine ⟨e, he, ?_⟩
  obtain ⟨v, hv⟩ := hb u (0 + l.length)
  unfold xWell
  rw [xRun_go h, hv]
  simp
/-- with a byte that is wrong nothing goes on -/
theorem xGoes_bad {l r : List Int} {n : Nat} (h : xRun .start l [] 0 = .bad n) (hn : n < l.length) : xGoes (l.take (n + 1)) = false := by
  have key : ∀ {l : List Int} {σ : XS} {t : List Int} {k n : Nat} {e : List Int}, xRun σ l t k = .bad (k + n) → n < l.length → xRun σ (l.take (n + 1) ++ e) t k = .bad (k + n) := by
    intro l
    induction l with
    | nil => intro σ t k n e _ g; simp at g
    | cons c l ih =>
      intro σ t k n e h g
      rw [List.take_succ_cons, List.cons_append]
      cases hs : xStep σ c with
      | none => rw [xRun_bad hs] at h ⊢; exact h
      | some q =>
        obtain ⟨τ, v⟩ := q
        by_cases hf : τ = .fin
        · subst hf; rw [xRun_fin hs] at h; cases h
        · rw [xRun_step hs hf] at h ⊢
          cases n with
          | zero =>
            exfalso
            have : ∀ {l : List Int} {σ : XS} {t : List Int} {k m : Nat}, xRun σ l t k = .bad m → k ≤ m := by
              intro l
              induction l with
              | nil => intro σ t k m h; cases h; exact Nat.le_refl _
              | cons c l ih2 =>
                intro σ t k m h
                cases hs : xStep σ c with
                | none => rw [xRun_bad hs] at h; cases h; exact Nat.le_refl _
                | some q =>
                  obtain ⟨τ, v⟩ := q
                  by_cases hf : τ = .fin
                  · subst hf; rw [xRun_fin hs] at h; cases h
                  · rw [xRun_step hs hf] at h; have := ih2 h; omega
            have := this h
            omega
          | succ n =>
            have := ih (e := e) (n := n) (k := k + 1) (by rw [h]; congr 1; omega) (by simpa using g)
            rw [this]
            congr 1; omega
  unfold xGoes
  rw [List.any_eq_false]
  intro e _
  have := key (e := e) (k := 0) (n := n) (by rw [h]; congr 1; omega) hn
  unfold xWell
  rw [this]
  simp
/-- all that stands ahead of a place is gone through -/
theorem xGo_bad : ∀ {l : List Int} {σ : XS} {t : List Int} {k m : Nat}, xRun σ l t k = .bad m → ∃ τ u, xGo σ (l.take (m - k)) t = some (τ, u) ∧ k ≤ m ∧ m ≤ k + l.length := by
  intro l
  induction l with
  | nil => intro σ t k m h; cases h; exact ⟨σ, t, by simp [xGo], Nat.le_refl _, by simp⟩
  | cons c l ih =>
    intro σ t k m h
    cases hs : xStep σ c with
    | none => rw [xRun_bad hs] at h; cases h; exact ⟨σ, t, by simp [xGo], Nat.le_refl _, by omega⟩
    | some q =>
      obtain ⟨τ, v⟩ := q
      by_cases hf : τ = .fin
      · subst hf; rw [xRun_fin hs] at h; cases h
      · rw [xRun_step hs hf] at h
        obtain ⟨ρ, u, h1, h2, h3⟩ := ih h
        refine ⟨ρ, u, ?_, by omega, by simp; omega⟩
        rw [show m - k = (m - (k + 1)) + 1 by omega, List.take_succ_cons, xGo_cons hs hf, h1]
theorem xGo_ok : ∀ {l : List Int} {σ : XS} {t v : List Int} {k m j : Nat}, xRun σ l t k = .ok v m → k + j < m → ∃ τ u, xGo σ (l.take j) t = some (τ, u) ∧ j < l.length := by
  intro l
  induction l with
  | nil => intro σ t v k m j h; cases h
  | cons c l ih =>
    intro σ t v k m j h hj
    cases j with
    | zero => exact ⟨σ, t, by simp [xGo], by simp⟩
    | succ j =>
      cases hs : xStep σ c with
      | none => rw [xRun_bad hs] at h; cases h
      | some q =>
        obtain ⟨τ, w⟩ := q
        by_cases hf : τ = .fin
        · subst hf; rw [xRun_fin hs] at h; cases h; omega
        · rw [xRun_step hs hf] at h
          obtain ⟨ρ, u, h1, h2⟩ := ih (j := j) h (by omega)
          exact ⟨ρ, u, by rw [List.take_succ_cons, xGo_cons hs hf, h1], by simpa using h2⟩
theorem xRun_take {l u : List Int} {τ : XS} (h : xGo .start l [] = some (τ, u)) : xRun .start l [] 0 = .bad l.length := by
  have := xRun_go (cs := []) (k := 0) h
  rw [List.append_nil] at this
  rw [this]
  show XO.bad _ = _
  congr 1; omega
theorem xRun_two {l t : List Int} {n : Nat} (h : xRun .start l [] 0 = .ok t n) : 2 ≤ n := by
  cases l with
  | nil => cases h
  | cons c r =>
    by_cases hc : c = 34
    · subst hc
      rw [xRun_step xStart (by simp)] at h
      cases r with
      | nil => cases h
      | cons d r =>
        cases hs : xStep .inn d with
        | none => rw [xRun_bad hs] at h; cases h
        | some q =>
          obtain ⟨τ, v⟩ := q
          by_cases hf : τ = .fin
          · subst hf; rw [xRun_fin hs] at h; cases h; omega
          · rw [xRun_step hs hf] at h
            have := xRun_len h
            omega
    · rw [xRun_bad (show xStep .start c = none from if_neg hc)] at h; cases h

end Go.Proofs.YtdhoknoemdjemabDoor
