/- literals in plain numbers: what is begun, what is a text, what is quoted. No Go text is met here. -/
import Derived.Test.YtefmlajndillbaaGreatDoorXAut
namespace Go.Proofs.YtefmlajndillbaaGreatDoor
set_option linter.unusedVariables false

theorem xBegun {l t : List Int} (hb : uByt l) (h : (uDec l).2 = 0) {m : Nat} (hm : m ≤ l.length) (h1 : ∀ j, j < m → xBeg (l.take (j + 1)) = true) (h2 : m < l.length → xBeg (l.take (m + 1)) = false) :
    ∃ σ u, xGo .inn (l.take m) t = some (σ, u) ∧ σ ≠ .fin ∧ ∀ c r, l.drop m = c :: r → xStep σ c = none := by
  match l, hb, h, hm, h1, h2 with
  | [], _, _, hm, _, _ =>
    have : m = 0 := by simpa using hm
    subst this
    exact ⟨.inn, t, rfl, by simp, fun c r h => by simp at h⟩
  | a :: r, hb, h, hm, h1, h2 =>
    have ha := hb a List.mem_cons_self
    have ha2 : 128 ≤ a := by
      rcases Int.lt_or_le a 128 with g | g
      · rw [xDec_one ha.1 g] at h; simp at h
      · exact g
    match m, hm, h1, h2 with
    | 0, hm, h1, h2 =>
      have := h2 (by simp)
      simp only [List.take_succ_cons, List.take_zero] at this
      refine ⟨.inn, t, rfl, by simp, fun c r' e => ?_⟩
      simp at e
      rw [← e.1]
      have g : ¬ (194 ≤ a ∧ a ≤ 244) := by rw [← xBeg_one ha2, this]; simp
      exact xIn_none (by omega)
    | 1, hm, h1, h2 =>
      have g := h1 0 (by omega)
      simp only [List.take_succ_cons, List.take_zero] at g
      rw [xBeg_one ha2] at g
      refine ⟨_, _, by rw [List.take_succ_cons, List.take_zero, xGo_cons (xIn_byts g.1 g.2) (by simp)]; rfl, by simp, fun c r' e => ?_⟩
      simp at e
      subst e
      have := h2 (by simp)
      simp only [List.take_succ_cons, List.take_zero] at this
      have k : ¬ (xLow a ≤ c ∧ c ≤ xMost a) := by rw [← xBeg_two g.1 g.2, this]; simp
      exact xByt_no k
    | m + 2, hm, h1, h2 =>
      match r, hb, h, hm, h1, h2 with
      | [], _, _, hm, _, _ => simp at hm
      | b :: r, hb, h, hm, h1, h2 =>
        have g := h1 0 (by omega)
        have g2 := h1 1 (by omega)
        simp only [List.take_succ_cons, List.take_zero] at g g2
        rw [xBeg_one ha2] at g
        rw [xBeg_two g.1 g.2] at g2
        have r2 := xRng g2
        by_cases k2 : a < 224
        · have : (uDec (a :: b :: r)).2 ≠ 0 := (xDec_two (by omega) k2).2 (by omega)
          exact absurd h this
        · have hl2 : 2 ≤ xLeft a := by unfold xLeft; split <;> (try split) <;> omega
          have step2 : ∀ cs u, xGo .inn (a :: b :: cs) u = xGo (.byts (xLeft a - 1) 128 191) cs (u ++ [a] ++ [b]) := fun cs u => by
            rw [xGo_cons (xIn_byts g.1 g.2) (by simp), xGo_cons (xByt_yes g2 hl2) (by simp)]
          match m, hm, h1, h2 with
          | 0, hm, h1, h2 =>
            refine ⟨_, _, by simp only [List.take_succ_cons, List.take_zero]; rw [step2]; rfl, by simp, fun c r' e => ?_⟩
            simp at e
            subst e
            have := h2 (by simp)
            simp only [List.take_succ_cons, List.take_zero] at this
            have k : ¬ (128 ≤ c ∧ c ≤ 191) := by rw [← xBeg_three (by omega) g.2 g2, this]; simp
            exact xByt_no k
          | m + 1, hm, h1, h2 =>
            match r, hb, h, hm, h1, h2 with
            | [], _, _, hm, _, _ => simp at hm
            | c :: r, hb, h, hm, h1, h2 =>
              have g3 := h1 2 (by omega)
              simp only [List.take_succ_cons, List.take_zero] at g3
              rw [xBeg_three (by omega) g.2 g2] at g3
              by_cases k3 : a < 240
              · have : (uDec (a :: b :: c :: r)).2 ≠ 0 := (xDec_three (by omega) k3).2 (by omega)
                exact absurd h this
              · have hl3 : xLeft a = 3 := xLeft_three (by omega)
                have step3 : ∀ cs u, xGo .inn (a :: b :: c :: cs) u = xGo (.byts 1 128 191) cs (u ++ [a] ++ [b] ++ [c]) := fun cs u => by
                  rw [step2, hl3, xGo_cons (xByt_yes g3 (by omega)) (by simp)]
                match m, hm, h1, h2 with
                | 0, hm, h1, h2 =>
                  refine ⟨_, _, by simp only [List.take_succ_cons, List.take_zero]; rw [step3]; rfl, by simp, fun d r' e => ?_⟩
                  simp at e
                  subst e
                  have := h2 (by simp)
                  simp only [List.take_succ_cons, List.take_zero] at this
                  have k : ¬ (128 ≤ d ∧ d ≤ 191) := by rw [← xBeg_four (by omega) g.2 g2 g3, this]; simp
                  exact xByt_no k
                | m + 1, hm, h1, h2 =>
                  match r, hb, h, hm, h1, h2 with
                  | [], _, _, hm, _, _ => simp at hm
                  | d :: r, hb, h, hm, h1, h2 =>
                    have g4 := h1 3 (by omega)
                    simp only [List.take_succ_cons, List.take_zero] at g4
                    rw [xBeg_four (by omega) g.2 g2 g3] at g4
                    have : (uDec (a :: b :: c :: d :: r)).2 ≠ 0 := (xDec_four (by omega) (by omega)).2 (by omega)
                    exact absurd h this

/-! ### is it a text? -/
def xSub (σ : XS) (c : Int) : Int := if σ = .inn ∧ (c < 32 ∨ c = 34 ∨ c = 92) then 97 else c
def xTxt : XS → List Int → Bool
  | σ, [] => decide (σ = .inn)
  | σ, c :: cs => match xStep σ (xSub σ c) with
    | none => false
    | some (σ', _) => xTxt σ' cs
theorem xTxt_cons {σ σ' : XS} {c : Int} {cs u : List Int} (h : xStep σ (xSub σ c) = some (σ', u)) : xTxt σ (c :: cs) = xTxt σ' cs := by rw [xTxt, h]
theorem xTxt_none {σ : XS} {c : Int} {cs : List Int} (h : xStep σ (xSub σ c) = none) : xTxt σ (c :: cs) = false := by rw [xTxt, h]
theorem xSub_byts (l : Nat) (lo mo c : Int) : xSub (.byts l lo mo) c = c := by unfold xSub; rw [if_neg (by simp)]
theorem xSub_high {c : Int} (h : 128 ≤ c) : xSub .inn c = c := by unfold xSub; rw [if_neg (by omega)]
theorem xSub_low {c : Int} (h0 : 0 ≤ c) (h : c < 128) : ∃ u, xStep .inn (xSub .inn c) = some (.inn, u) := by
  unfold xSub
  by_cases g : c < 32 ∨ c = 34 ∨ c = 92
  · rw [if_pos ⟨rfl, g⟩]; exact ⟨_, xIn_self (by omega) (by omega) (by omega) (by omega)⟩
  · rw [if_neg (fun k => g k.2)]; exact ⟨_, xIn_self (by omega) h (by omega) (by omega)⟩
theorem xTxt_enc {p : Int} {r : List Int} (hp : uPt p = true) : xTxt .inn (uEnc p ++ r) = xTxt .inn r := by
  have hq := uPt_iff.1 hp
  unfold uEnc
  by_cases g1 : p < 128
  · rw [if_pos g1]
    obtain ⟨u, hu⟩ := xSub_low hq.1 g1
    exact xTxt_cons hu
  · rw [if_neg g1]
    by_cases g2 : p < 2048
    · rw [if_pos g2, List.cons_append, xTxt_cons (by rw [xSub_high (by omega)]; exact xIn_byts (by omega) (by omega)), xLeft_one (by omega), List.cons_append, xTxt_cons (by rw [xSub_byts]; exact xByt_last (xRng_mk (by omega) (by omega) (by omega) (by omega) (by omega) (by omega)))]
      rfl
    · rw [if_neg g2]
      by_cases g3 : p < 65536
      · rw [if_pos g3, List.cons_append, xTxt_cons (by rw [xSub_high (by omega)]; exact xIn_byts (by omega) (by omega)), xLeft_two (by omega) (by omega), List.cons_append, xTxt_cons (by rw [xSub_byts]; exact xByt_yes (xRng_mk (by omega) (by omega) (by omega) (by omega) (by omega) (by omega)) (by omega)), List.cons_append, xTxt_cons (by rw [xSub_byts]; exact xByt_last (by omega))]
        rfl
      · rw [if_neg g3, List.cons_append, xTxt_cons (by rw [xSub_high (by omega)]; exact xIn_byts (by omega) (by omega)), xLeft_three (by omega), List.cons_append, xTxt_cons (by rw [xSub_byts]; exact xByt_yes (xRng_mk (by omega) (by omega) (by omega) (by omega) (by omega) (by omega)) (by omega)), List.cons_append, xTxt_cons (by rw [xSub_byts]; exact xByt_yes (by omega) (by omega)), List.cons_append, xTxt_cons (by rw [xSub_byts]; exact xByt_last (by omega))]
        rfl
theorem xTxt_bad {l : List Int} (hb : uByt l) (h : (uDec l).2 = 0) (hl : l ≠ []) : xTxt .inn l = false := by
  match l, hb, h, hl with
  | a :: r, hb, h, _ =>
    have ha := hb a List.mem_cons_self
    have ha2 : 128 ≤ a := by
      rcases Int.lt_or_le a 128 with g | g
      · rw [xDec_one ha.1 g] at h; simp at h
      · exact g
    by_cases g : 194 ≤ a ∧ a ≤ 244
    · rw [xTxt_cons (by rw [xSub_high ha2]; exact xIn_byts g.1 g.2)]
      match r, h with
      | [], h => rfl
      | b :: r, h =>
        by_cases k : xLow a ≤ b ∧ b ≤ xMost a
        · have r2 := xRng k
          by_cases k2 : a < 224
          · exact absurd h ((xDec_two (by omega) k2).2 (by omega))
          · have hl2 : 2 ≤ xLeft a := by unfold xLeft; split <;> (try split) <;> omega
            rw [xTxt_cons (by rw [xSub_byts]; exact xByt_yes k hl2)]
            match r, h with
            | [], h => rfl
            | c :: r, h =>
              by_cases k3 : 128 ≤ c ∧ c ≤ 191
              · by_cases k4 : a < 240
                · exact absurd h ((xDec_three (by omega) k4).2 (by omega))
                · rw [xLeft_three (by omega), xTxt_cons (by rw [xSub_byts]; exact xByt_yes k3 (by omega))]
                  match r, h with
                  | [], h => rfl
                  | d :: r, h =>
                    by_cases k5 : 128 ≤ d ∧ d ≤ 191
                    · exact absurd h ((xDec_four (by omega) (by omega)).2 (by omega))
                    · exact xTxt_none (by rw [xSub_byts]; exact xByt_no k5)
              · exact xTxt_none (by rw [xSub_byts]; exact xByt_no k3)
        · exact xTxt_none (by rw [xSub_byts]; exact xByt_no k)
    · exact xTxt_none (by rw [xSub_high ha2]; exact xIn_none (by omega))
theorem xTxt_split {l ps t : List Int} (hb : uByt l) (h : USplit l ps t) : xTxt .inn l = t.isEmpty := by
  have e := h.eq
  subst e
  have hp := h.pts
  have hbad := h.bad
  clear h
  induction ps with
  | nil =>
    cases t with
    | nil => rfl
    | cons a r => exact xTxt_bad (fun x hx => hb x (by simpa [uFlat] using hx)) hbad (by simp)
  | cons p ps ih =>
    rw [uFlat_cons, List.append_assoc, xTxt_enc (uPts.cons hp).1]
    exact ih (fun x hx => hb x (by rw [uFlat_cons, List.append_assoc]; exact List.mem_append_right _ hx)) (uPts.cons hp).2

/-! ### the one form -/
def xHex (d : Int) : Int := if d < 10 then 48 + d else 87 + d
/-- a byte in the one form -/
def xEsc (c : Int) : List Int :=
  if c = 34 ∨ c = 92 then [92, c] else if c = 8 then [92, 98] else if c = 9 then [92, 116] else if c = 10 then [92, 110] else if c = 12 then [92, 102] else if c = 13 then [92, 114]
  else if c < 32 then [92, 117, 48, 48, xHex (c / 16), xHex (c % 16)] else [c]
def xQ (l : List Int) : List Int := [34] ++ l.flatMap xEsc ++ [34]
theorem xEsc_byt {c : Int} (h0 : 0 ≤ c) (h1 : c < 256) : uByt (xEsc c) := by
  unfold xEsc xHex
  intro x
  split; simp; omega
  split; simp; omega
  split; simp; omega
  split; simp; omega
  split; simp; omega
  split; simp; omega
  split
  · simp; split <;> split <;> omega
  · simp; omega
theorem xEsc_low {c : Int} (h0 : 0 ≤ c) (h1 : c < 256) : ∀ x ∈ xEsc c, 32 ≤ x := by
  unfold xEsc xHex
  intro x
  split; simp; omega
  split; simp; omega
  split; simp; omega
  split; simp; omega
  split; simp; omega
  split; simp; omega
  split
  · simp; split <;> split <;> omega
  · simp; omega
theorem xEsc_len (c : Int) : 1 ≤ (xEsc c).length ∧ (xEsc c).length ≤ 6 := by
  unfold xEsc
  split; simp
  split; simp
  split; simp
  split; simp
  split; simp
  split; simp
  split <;> simp
theorem xEsc_self {c : Int} (h : 32 ≤ c) (h1 : c ≠ 34) (h2 : c ≠ 92) : xEsc c = [c] := by
  unfold xEsc
  rw [if_neg (by omega), if_neg (by omega), if_neg (by omega), if_neg (by omega), if_neg (by omega), if_neg (by omega), if_neg (by omega)]
theorem xQ_len (l : List Int) : l.length + 2 ≤ (xQ l).length ∧ (xQ l).length ≤ 6 * l.length + 2 := by
  have : l.length ≤ (l.flatMap xEsc).length ∧ (l.flatMap xEsc).length ≤ 6 * l.length := by
    induction l with
    | nil => simp
    | cons a r ih => rw [List.flatMap_cons, List.length_append, List.length_cons]; have := xEsc_len a; omega
  unfold xQ; rw [List.length_append, List.length_append]; simp only [List.length_cons, List.length_nil]; omega
theorem xQ_byt {l : List Int} (h : uByt l) : uByt (xQ l) := by
  unfold xQ
  intro x hx
  simp at hx
  rcases hx with rfl | ⟨c, hc, hx⟩ | rfl
  · omega
  · have := h c hc; exact xEsc_byt this.1 this.2 x hx
  · omega
theorem xQ_low {l : List Int} (h : uByt l) : ∀ x ∈ xQ l, 32 ≤ x := by
  unfold xQ
  intro x hx
  simp at hx
  rcases hx with rfl | ⟨c, hc, hx⟩ | rfl
  · omega
  · have := h c hc; exact xEsc_low this.1 this.2 x hx
  · omega
theorem xStr_let {c : Int} (h : xLet c ≠ -1) : xStep .stroke c = some (.inn, [xLet c]) := by
  show xStr c = _
  unfold xStr; rw [if_pos h]
theorem xStr_u : xStep .stroke 117 = some (.digs 4 0 0, []) := by decide
theorem xIn_stroke : xStep .inn 92 = some (.stroke, []) := by decide
theorem xIn_quote : xStep .inn 34 = some (.fin, []) := by decide
theorem xStart : xStep .start 34 = some (.inn, []) := by decide
theorem xGo_esc1 {c d : Int} {t : List Int} (h : xLet d = c) (hc : c ≠ -1) : xGo .inn [92, d] t = some (.inn, t ++ [c]) := by
  rw [xGo_cons xIn_stroke (by simp), xGo_cons (xStr_let (by rw [h]; exact hc)) (by simp), h]; simp [xGo]
theorem xGo_escC {t : List Int} : ∀ c : Fin 32, xGo .inn (xEsc (c.val : Int)) [] = some (.inn, [(c.val : Int)]) := by decide +kernel
theorem xGo_pre {σ σ' : XS} {bs u : List Int} (t : List Int) (h : xGo σ bs [] = some (σ', u)) : xGo σ bs t = some (σ', t ++ u) := by
  have gen : ∀ (bs : List Int) (σ : XS) (t u v : List Int), xGo σ bs u = some (σ', v) → xGo σ bs (t ++ u) = some (σ', t ++ v) := by
    intro bs
    induction bs with
    | nil => intro σ t u v h; rw [xGo] at h ⊢; cases h; rfl
    | cons b bs ih =>
      intro σ t u v h
      rw [xGo] at h ⊢
      cases hs : xStep σ b with
      | none => rw [hs] at h; simp at h
      | some q =>
        obtain ⟨τ, w⟩ := q
        rw [hs] at h
        simp only at h ⊢
        by_cases hf : τ = .fin
        · rw [if_pos hf] at h; simp at h
        · rw [if_neg hf] at h ⊢
          rw [List.append_assoc]
          exact ih _ _ _ _ h
  have := gen bs σ t [] u h
  rwa [List.append_nil] at this
/-- a code point's encoding in the one form says it -/
theorem xGo_quoted {p : Int} {t : List Int} (hp : uPt p = true) : xGo .inn ((uEnc p).flatMap xEsc) t = some (.inn, t ++ uEnc p) := by
  have hq := uPt_iff.1 hp
  by_cases h0 : p < 32
  · have e : uEnc p = [p] := by unfold uEnc; rw [if_pos (by omega)]
    rw [e]
    have := xGo_escC (t := []) ⟨p.toNat, by omega⟩
    have hp2 : ((p.toNat : Nat) : Int) = p := by omega
    simp only [hp2] at this
    rw [List.flatMap_cons, List.flatMap_nil, List.append_nil]
    exact xGo_pre t this
  · by_cases h1 : p = 34
    · subst h1; exact xGo_pre t (by decide)
    · by_cases h2 : p = 92
      · subst h2; exact xGo_pre t (by decide)
      · have e : (uEnc p).flatMap xEsc = uEnc p := by
          have : ∀ l : List Int, (∀ x ∈ l, 32 ≤ x ∧ x ≠ 34 ∧ x ≠ 92) → l.flatMap xEsc = l := by
            intro l
            induction l with
            | nil => intro _; rfl
            | cons a r ih =>
              intro h
              have ha := h a List.mem_cons_self
              rw [List.flatMap_cons, xEsc_self ha.1 ha.2.1 ha.2.2, ih (fun x hx => h x (List.mem_cons_of_mem _ hx))]
              rfl
          apply this
          intro x
          unfold uEnc
          split
          · simp; omega
          · split
            · simp; omega
            · split
              · simp; omega
              · simp; omega
        rw [e]
        exact xGo_enc hp (by omega) h1 h2
theorem xGo_flat {ps t : List Int} (h : uPts ps) : xGo .inn ((uFlat ps).flatMap xEsc) t = some (.inn, t ++ uFlat ps) := by
  induction ps generalizing t with
  | nil => simp [uFlat, xGo]
  | cons p ps ih =>
    rw [uFlat_cons, List.flatMap_append, xGo_app (xGo_quoted (uPts.cons h).1), ih (uPts.cons h).2, List.append_assoc]
theorem xRun_quoted {ps r : List Int} (h : uPts ps) : xRun .start (xQ (uFlat ps) ++ r) [] 0 = .ok (uFlat ps) (xQ (uFlat ps)).length := by
  unfold xQ
  rw [List.append_assoc, List.append_assoc, List.cons_append, List.nil_append, xRun_step xStart (by simp), xRun_go (xGo_flat h), List.cons_append, xRun_fin xIn_quote]
  simp
  omega

end Go.Proofs.YtefmlajndillbaaGreatDoor
