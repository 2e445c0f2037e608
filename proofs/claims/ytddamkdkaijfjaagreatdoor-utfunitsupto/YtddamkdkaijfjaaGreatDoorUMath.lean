/- UTF-8 in plain numbers: encodings, steps, code units, their order. No Go text is met here. -/
namespace Go.Proofs.YtddamkdkaijfjaaGreatDoor
set_option linter.unusedVariables false

def uCont (c : Int) : Bool := decide (128 ≤ c) && decide (c < 192)
/-- a code point -/
def uPt (p : Int) : Bool := decide (0 ≤ p) && decide (p ≤ 1114111) && (decide (p < 55296) || decide (57343 < p))
def uEnc (p : Int) : List Int :=
  if p < 128 then [p] else if p < 2048 then [192 + p / 64, 128 + p % 64]
  else if p < 65536 then [224 + p / 4096, 128 + p / 64 % 64, 128 + p % 64]
  else [240 + p / 262144, 128 + p / 4096 % 64, 128 + p / 64 % 64, 128 + p % 64]
/-- how many bytes its encoding has; 0 of what is none -/
def uSz (p : Int) : Nat := if uPt p then (if p < 128 then 1 else if p < 2048 then 2 else if p < 65536 then 3 else 4) else 0
theorem uPt_iff {p : Int} : uPt p = true ↔ 0 ≤ p ∧ p ≤ 1114111 ∧ (p < 55296 ∨ 57343 < p) := by
  unfold uPt; simp; omega
theorem uEnc_len (p : Int) : (uEnc p).length = if p < 128 then 1 else if p < 2048 then 2 else if p < 65536 then 3 else 4 := by
  unfold uEnc; split
  · rfl
  · split
    · rfl
    · split <;> rfl
theorem uSz_pt {p : Int} (h : uPt p = true) : uSz p = (uEnc p).length := by
  rw [uEnc_len]; unfold uSz; rw [if_pos h]
theorem uEnc_pos (p : Int) : 0 < (uEnc p).length := by rw [uEnc_len]; split; omega; split; omega; split <;> omega
theorem uEnc_le (p : Int) : (uEnc p).length ≤ 4 := by rw [uEnc_len]; split; omega; split; omega; split <;> omega
theorem uSz_le (p : Int) : uSz p ≤ 4 := by unfold uSz; split; split; omega; split; omega; split <;> omega; omega
theorem uSz_zero {p : Int} : uSz p = 0 ↔ uPt p = false := by
  unfold uSz
  cases h : uPt p
  · simp
  · simp; split; omega; split; omega; split <;> omega
/-- what a first byte tells -/
def uLead (a : Int) : Int × Nat :=
  if a < 128 then (a, 1) else if a < 192 then (0, 0) else if a < 224 then (a - 192, 2) else if a < 240 then (a - 224, 3) else if a < 248 then (a - 240, 4) else (0, 0)
/-- the bits of further bytes -/
def uAcc : Int → List Int → Int
  | r, [] => r
  | r, c :: cs => uAcc (r * 64 + (c - 128)) cs
/-- what stands at the beginning: the code point and its size; (0, 0): none -/
def uDec : List Int → Int × Nat
  | [] => (0, 0)
  | a :: r =>
    if (uLead a).2 = 0 then (0, 0)
    else if r.length < (uLead a).2 - 1 then (0, 0)
    else if (r.take ((uLead a).2 - 1)).all uCont = false then (0, 0)
    else if uSz (uAcc (uLead a).1 (r.take ((uLead a).2 - 1))) = (uLead a).2 then (uAcc (uLead a).1 (r.take ((uLead a).2 - 1)), (uLead a).2)
    else (0, 0)
def uByt (es : List Int) : Prop := ∀ x ∈ es, 0 ≤ x ∧ x < 256
theorem uEnc_byt {p : Int} (h : uPt p = true) : uByt (uEnc p) := by
  rw [uPt_iff] at h
  unfold uEnc uByt
  intro x
  split
  · simp; omega
  · split
    · simp; omega
    · split
      · simp; omega
      · simp; omega
theorem uDec_enc {p : Int} (r : List Int) (h : uPt p = true) : uDec (uEnc p ++ r) = (p, (uEnc p).length) := by
  have hp := uPt_iff.1 h
  have hs := uSz_pt h
  rw [uEnc_len] at hs ⊢
  unfold uEnc
  by_cases h1 : p < 128
  · rw [if_pos h1] at hs ⊢
    rw [if_pos h1]
    simp [uDec, uLead, h1, uAcc, hs]
  · rw [if_neg h1] at hs ⊢
    rw [if_neg h1]
    by_cases h2 : p < 2048
    · rw [if_pos h2] at hs ⊢
      rw [if_pos h2]
      have a1 : ¬ 192 + p / 64 < 128 := by omega
      have a2 : ¬ 192 + p / 64 < 192 := by omega
      have a3 : 192 + p / 64 < 224 := by omega
      have e : (192 + p / 64 - 192) * 64 + (128 + p % 64 - 128) = p := by omega
      simp only [List.cons_append, List.nil_append, uDec, uLead, if_neg a1, if_neg a2, if_pos a3]
      have k1 : uCont (128 + p % 64) = true := by unfold uCont; simp; omega
      simp [uAcc, k1, e, hs]
    · rw [if_neg h2] at hs ⊢
      rw [if_neg h2]
      by_cases h3 : p < 65536
      · rw [if_pos h3] at hs ⊢
        rw [if_pos h3]
        have a1 : ¬ 224 + p / 4096 < 128 := by omega
        have a2 : ¬ 224 + p / 4096 < 192 := by omega
        have a3 : ¬ 224 + p / 4096 < 224 := by omega
        have a4 : 224 + p / 4096 < 240 := by omega
        have e : ((224 + p / 4096 - 224) * 64 + (128 + p / 64 % 64 - 128)) * 64 + (128 + p % 64 - 128) = p := by omega
        simp only [List.cons_append, List.nil_append, uDec, uLead, if_neg a1, if_neg a2, if_neg a3, if_pos a4]
        have k1 : uCont (128 + p % 64) = true := by unfold uCont; simp; omega
        have k2 : uCont (128 + p / 64 % 64) = true := by unfold uCont; simp; omega
        have q : ¬ r.length + 1 + 1 < 2 := by omega
        simp [uAcc, k1, k2, e, hs, q]
      · rw [if_neg h3] at hs ⊢
        rw [if_neg h3]
        have a1 : ¬ 240 + p / 262144 < 128 := by omega
        have a2 : ¬ 240 + p / 262144 < 192 := by omega
        have a3 : ¬ 240 + p / 262144 < 224 := by omega
        have a4 : ¬ 240 + p / 262144 < 240 := by omega
        have a5 : 240 + p / 262144 < 248 := by omega
        have e : (((240 + p / 262144 - 240) * 64 + (128 + p / 4096 % 64 - 128)) * 64 + (128 + p / 64 % 64 - 128)) * 64 + (128 + p % 64 - 128) = p := by omega
        simp only [List.cons_append, List.nil_append, uDec, uLead, if_neg a1, if_neg a2, if_neg a3, if_neg a4, if_pos a5]
        have k1 : uCont (128 + p % 64) = true := by unfold uCont; simp; omega
        have k2 : uCont (128 + p / 64 % 64) = true := by unfold uCont; simp; omega
        have k3 : uCont (128 + p / 4096 % 64) = true := by unfold uCont; simp; omega
        have q : ¬ r.length + 1 + 1 + 1 < 3 := by omega
        simp [uAcc, k1, k2, k3, e, hs, q]
theorem uDec_le (l : List Int) : (uDec l).2 ≤ l.length := by
  cases l with
  | nil => simp [uDec]
  | cons a r =>
    simp only [uDec]
    split; simp
    split; simp
    split; simp
    split
    · simp; omega
    · simp
/-- four ways -/
theorem uDec_cases {l : List Int} (hb : uByt l) (h : (uDec l).2 ≠ 0) : uPt (uDec l).1 = true ∧ (uEnc (uDec l).1).length = (uDec l).2 ∧ l = uEnc (uDec l).1 ++ l.drop (uDec l).2 := by
  cases l with
  | nil => simp [uDec] at h
  | cons a r =>
    have ha := hb a List.mem_cons_self
    simp only [uDec] at h ⊢
    split at h; simp at h
    split at h; simp at h
    split at h; simp at h
    split at h
    · rename_i g1 g2 g3 g4
      rw [if_neg g1, if_neg g2, if_neg g3, if_pos g4]
      have hpt : uPt (uAcc (uLead a).1 (List.take ((uLead a).2 - 1) r)) = true := by
        cases hp : uPt (uAcc (uLead a).1 (List.take ((uLead a).2 - 1) r))
        · rw [uSz_zero.2 hp] at g4; omega
        · rfl
      have hsz := uSz_pt hpt
      refine ⟨hpt, by rw [← hsz, g4], ?_⟩
      have hlen := hsz.symm.trans g4
      rw [uEnc_len] at hlen
      have hq := uPt_iff.1 hpt
      have g3' : (r.take ((uLead a).2 - 1)).all uCont = true := by simpa using g3
      clear g1 hpt h g3
      unfold uLead at *
      by_cases b1 : a < 128
      · simp only [if_pos b1, uAcc, Nat.sub_self, List.take_zero, List.drop_succ_cons, List.drop_zero] at *
        unfold uEnc; rw [if_pos (by omega)]; rfl
      · simp only [if_neg b1] at *
        by_cases b2 : a < 192
        · exfalso
          simp only [if_pos b2] at hlen
          revert hlen
          split
          · omega
          · split
            · omega
            · split <;> omega
        · simp only [if_neg b2] at *
          by_cases b3 : a < 224
          · simp only [if_pos b3] at *
            match r, g2 with
            | [], g2 => simp at g2
            | b :: t, _ =>
              simp [uAcc, uCont] at g3' hlen hq ⊢
              have hl1 : ¬ (a - 192) * 64 + (b - 128) < 128 := by intro hx; rw [if_pos hx] at hlen; omega
              have hl2 : (a - 192) * 64 + (b - 128) < 2048 := by omega
              unfold uEnc
              rw [if_neg hl1, if_pos hl2]
              simp only [List.cons_append, List.nil_append, List.cons.injEq, and_true]
              omega
          · simp only [if_neg b3] at *
            by_cases b4 : a < 240
            · simp only [if_pos b4] at *
              match r, g2 with
              | [], g2 => simp at g2
              | [_], g2 => simp at g2
              | b :: c :: t, _ =>
                simp [uAcc, uCont] at g3' hlen hq ⊢
                have hl1 : ¬ ((a - 224) * 64 + (b - 128)) * 64 + (c - 128) < 128 := by intro hx; rw [if_pos hx] at hlen; omega
                rw [if_neg hl1] at hlen
                have hl2 : ¬ ((a - 224) * 64 + (b - 128)) * 64 + (c - 128) < 2048 := by intro hx; rw [if_pos hx] at hlen; omega
                have hl3 : ((a - 224) * 64 + (b - 128)) * 64 + (c - 128) < 65536 := by omega
                unfold uEnc
                rw [if_neg hl1, if_neg hl2, if_pos hl3]
                simp only [List.cons_append, List.nil_append, List.cons.injEq, and_true]
                omega
            · simp only [if_neg b4] at *
              by_cases b5 : a < 248
              · simp only [if_pos b5] at *
                match r, g2 with
                | [], g2 => simp at g2
                | [_], g2 => simp at g2
                | [_, _], g2 => simp at g2
                | b :: c :: d :: t, _ =>
                  simp [uAcc, uCont] at g3' hlen hq ⊢
                  have hl1 : ¬ (((a - 240) * 64 + (b - 128)) * 64 + (c - 128)) * 64 + (d - 128) < 128 := by intro hx; rw [if_pos hx] at hlen; omega
                  rw [if_neg hl1] at hlen
                  have hl2 : ¬ (((a - 240) * 64 + (b - 128)) * 64 + (c - 128)) * 64 + (d - 128) < 2048 := by intro hx; rw [if_pos hx] at hlen; omega
                  rw [if_neg hl2] at hlen
                  have hl3 : ¬ (((a - 240) * 64 + (b - 128)) * 64 + (c - 128)) * 64 + (d - 128) < 65536 := by intro hx; rw [if_pos hx] at hlen; omega
                  unfold uEnc
                  rw [if_neg hl1, if_neg hl2, if_neg hl3]
                  simp only [List.cons_append, List.nil_append, List.cons.injEq, and_true]
                  omega
              · simp only [if_neg b5] at *
                simp [uAcc] at hlen
    · simp at h
/-- the bytes of code points -/
def uFlat (ps : List Int) : List Int := ps.flatMap uEnc
theorem uFlat_nil : uFlat [] = [] := rfl
theorem uFlat_cons (p : Int) (ps : List Int) : uFlat (p :: ps) = uEnc p ++ uFlat ps := rfl
theorem uFlat_append (ps qs : List Int) : uFlat (ps ++ qs) = uFlat ps ++ uFlat qs := by simp [uFlat]
theorem uFlat_snoc (ps : List Int) (p : Int) : uFlat (ps ++ [p]) = uFlat ps ++ uEnc p := by simp [uFlat]
def uPts (ps : List Int) : Prop := ∀ p ∈ ps, uPt p = true
theorem uPts.cons {p : Int} {ps : List Int} (h : uPts (p :: ps)) : uPt p = true ∧ uPts ps := ⟨h p List.mem_cons_self, fun q hq => h q (List.mem_cons_of_mem _ hq)⟩
theorem uPts.mk {p : Int} {ps : List Int} (h : uPt p = true) (g : uPts ps) : uPts (p :: ps) := fun q hq => by
  rcases List.mem_cons.1 hq with e | e
  · rw [e]; exact h
  · exact g q e
theorem uPts.append {ps qs : List Int} (h : uPts ps) (g : uPts qs) : uPts (ps ++ qs) := fun q hq => by
  rcases List.mem_append.1 hq with e | e
  · exact h q e
  · exact g q e
theorem uFlat_byt {ps : List Int} (h : uPts ps) : uByt (uFlat ps) := by
  intro x hx
  obtain ⟨p, h1, h2⟩ := List.mem_flatMap.1 hx
  exact uEnc_byt (h p h1) x h2
theorem uByt.drop {l : List Int} (h : uByt l) (n : Nat) : uByt (l.drop n) := fun x hx => h x (List.mem_of_mem_drop hx)
theorem uByt.append {l m : List Int} (h : uByt l) (g : uByt m) : uByt (l ++ m) := fun x hx => by
  rcases List.mem_append.1 hx with e | e
  · exact h x e
  · exact g x e
/-- code points as far as there are some, and what is left -/
structure USplit (l ps t : List Int) : Prop where
  pts : uPts ps
  eq : l = uFlat ps ++ t
  bad : (uDec t).2 = 0
theorem USplit.exists : ∀ (n : Nat) {l : List Int}, l.length ≤ n → uByt l → ∃ ps t, USplit l ps t := by
  intro n
  induction n with
  | zero =>
    intro l hl hb
    have : l = [] := List.length_eq_zero_iff.1 (by omega)
    subst this
    exact ⟨[], [], fun p hp => absurd hp (by simp), rfl, rfl⟩
  | succ n ih =>
    intro l hl hb
    by_cases h : (uDec l).2 = 0
    · exact ⟨[], l, fun p hp => absurd hp (by simp), rfl, h⟩
    · obtain ⟨h1, h2, h3⟩ := uDec_cases hb h
      have hle := uDec_le l
      obtain ⟨ps, t, hs⟩ := ih (l := l.drop (uDec l).2) (by rw [List.length_drop]; omega) (hb.drop _)
      refine ⟨(uDec l).1 :: ps, t, uPts.mk h1 hs.pts, ?_, hs.bad⟩
      rw [uFlat_cons, List.append_assoc, ← hs.eq]
      exact h3
theorem USplit.unique {l ps t ps' t' : List Int} (h : USplit l ps t) (h' : USplit l ps' t') : ps = ps' ∧ t = t' := by
  induction ps generalizing l ps' with
  | nil =>
    cases ps' with
    | nil =>
      have a := h.eq; have b := h'.eq
      simp [uFlat] at a b
      exact ⟨rfl, a.symm.trans b⟩
    | cons p ps' =>
      exfalso
      have a := h.eq; have b := h'.eq
      simp [uFlat_nil] at a
      subst a
      have c := h.bad
      rw [b, uFlat_cons, List.append_assoc, uDec_enc _ h'.pts.cons.1] at c
      have := uEnc_pos p
      simp at c
      rw [c] at this
      simp at this
  | cons p ps ih =>
    have a := h.eq
    rw [uFlat_cons, List.append_assoc] at a
    have d : uDec l = (p, (uEnc p).length) := by rw [a]; exact uDec_enc _ h.pts.cons.1
    cases ps' with
    | nil =>
      exfalso
      have b := h'.eq
      simp [uFlat_nil] at b
      subst b
      have c := h'.bad
      rw [d] at c
      have := uEnc_pos p
      simp at c
      rw [c] at this
      simp at this
    | cons q qs =>
      have b := h'.eq
      rw [uFlat_cons, List.append_assoc] at b
      have d' : uDec l = (q, (uEnc q).length) := by rw [b]; exact uDec_enc _ h'.pts.cons.1
      have e : p = q := (Prod.mk.inj (d.symm.trans d')).1
      subst e
      have e2 : uFlat ps ++ t = uFlat qs ++ t' := List.append_cancel_left (a.symm.trans b)
      obtain ⟨r1, r2⟩ := ih (l := uFlat ps ++ t) ⟨h.pts.cons.2, rfl, h.bad⟩ ⟨h'.pts.cons.2, e2, h'.bad⟩
      exact ⟨by rw [r1], r2⟩
theorem USplit.text {ps : List Int} (h : uPts ps) : USplit (uFlat ps) ps [] := ⟨h, by simp, rfl⟩
theorem USplit.join {l ps m qs t : List Int} (h : USplit l ps []) (h' : USplit m qs t) : USplit (l ++ m) (ps ++ qs) t :=
  ⟨h.pts.append h'.pts, by rw [h.eq, h'.eq, uFlat_append]; simp, h'.bad⟩
theorem USplit.step {l ps t : List Int} {p : Int} (h : USplit l (p :: ps) t) : uDec l = (p, (uEnc p).length) := by
  have a := h.eq
  rw [uFlat_cons, List.append_assoc] at a
  rw [a]; exact uDec_enc _ h.pts.cons.1
theorem USplit.at {l pre rest t : List Int} (h : USplit l (pre ++ rest) t) : l.drop (uFlat pre).length = uFlat rest ++ t := by
  rw [h.eq, uFlat_append, List.append_assoc, List.drop_left]
theorem USplit.rest {l pre rest t : List Int} (h : USplit l (pre ++ rest) t) : USplit (l.drop (uFlat pre).length) rest t :=
  ⟨fun p hp => h.pts p (List.mem_append_right _ hp), h.at, h.bad⟩
theorem uFlat_inj {ps qs : List Int} (h : uPts ps) (g : uPts qs) (e : uFlat ps = uFlat qs) : ps = qs :=
  ((USplit.text h).unique (e ▸ USplit.text g)).1
theorem uFlat_len (ps : List Int) : ps.length ≤ (uFlat ps).length := by
  induction ps with
  | nil => simp [uFlat]
  | cons p ps ih => rw [uFlat_cons, List.length_append, List.length_cons]; have := uEnc_pos p; omega

/-- code units of a code point -/
def uU (p : Int) : List Int := if p < 65536 then [p] else [55296 + (p - 65536) / 1024, 56320 + (p - 65536) % 1024]
/-- a step as one number: its code point; 2000000 and its byte, where it is none -/
def sEnc (q : Int) : List Int := if q < 2000000 then uEnc q else [q - 2000000]
def sU (q : Int) : List Int := if q < 2000000 then uU q else [65536 + (q - 2000000)]
def sOk (q : Int) : Prop := uPt q = true ∨ (2000000 ≤ q ∧ q < 2000256)
/-- all steps of a string -/
inductive USteps : List Int → List Int → Prop
  | nil : USteps [] []
  | good {l qs : List Int} {p : Int} {n : Nat} : uDec l = (p, n) → n ≠ 0 → USteps (l.drop n) qs → USteps l (p :: qs)
  | bad {a : Int} {r qs : List Int} : (uDec (a :: r)).2 = 0 → USteps r qs → USteps (a :: r) ((2000000 + a) :: qs)
theorem USteps.exists : ∀ (n : Nat) {l : List Int}, l.length ≤ n → uByt l → ∃ qs, USteps l qs := by
  intro n
  induction n with
  | zero =>
    intro l hl hb
    have : l = [] := List.length_eq_zero_iff.1 (by omega)
    subst this
    exact ⟨[], .nil⟩
  | succ n ih =>
    intro l hl hb
    cases l with
    | nil => exact ⟨[], .nil⟩
    | cons a r =>
      by_cases h : (uDec (a :: r)).2 = 0
      · obtain ⟨qs, hq⟩ := ih (l := r) (by simp at hl; omega) (fun x hx => hb x (List.mem_cons_of_mem _ hx))
        exact ⟨_, .bad h hq⟩
      · obtain ⟨qs, hq⟩ := ih (l := (a :: r).drop (uDec (a :: r)).2) (by rw [List.length_drop]; omega) (hb.drop _)
        exact ⟨_, .good (p := (uDec (a :: r)).1) rfl h hq⟩
theorem USteps.unique {l qs qs' : List Int} (h : USteps l qs) (h' : USteps l qs') : qs = qs' := by
  induction h generalizing qs' with
  | nil =>
    cases h' with
    | nil => rfl
    | good a b c => simp [uDec] at a; omega
  | good a b c ih =>
    cases h' with
    | nil => simp [uDec] at a; omega
    | good a' b' c' =>
      have e := a.symm.trans a'
      obtain ⟨e1, e2⟩ := Prod.mk.inj e
      subst e1 e2
      rw [ih c']
    | bad a' c' => rw [a] at a'; exact absurd a' b
  | bad a c ih =>
    cases h' with
    | good a' b' c' => rw [a'] at a; exact absurd a b'
    | bad a' c' => rw [ih c']
theorem uPt_lt {p : Int} (h : uPt p = true) : p < 2000000 := by have := uPt_iff.1 h; omega
theorem USteps.ok {l qs : List Int} (hb : uByt l) (h : USteps l qs) : (∀ q ∈ qs, sOk q) ∧ l = qs.flatMap sEnc := by
  induction h with
  | nil => exact ⟨fun q hq => absurd hq (by simp), rfl⟩
  | @good l qs p n a b c ih =>
    obtain ⟨i1, i2⟩ := ih (hb.drop _)
    have h := uDec_cases hb (by rw [a]; exact b)
    rw [a] at h
    obtain ⟨h1, h2, h3⟩ := h
    refine ⟨fun q hq => ?_, ?_⟩
    · rcases List.mem_cons.1 hq with e | e
      · rw [e]; exact .inl h1
      · exact i1 q e
    · rw [List.flatMap_cons, ← i2, sEnc, if_pos (uPt_lt h1)]
      exact h3
  | @bad a r qs c d ih =>
    obtain ⟨i1, i2⟩ := ih (fun x hx => hb x (List.mem_cons_of_mem _ hx))
    have ha := hb a List.mem_cons_self
    refine ⟨fun q hq => ?_, ?_⟩
    · rcases List.mem_cons.1 hq with e | e
      · rw [e]; exact .inr ⟨by omega, by omega⟩
      · exact i1 q e
    · rw [List.flatMap_cons, ← i2, sEnc, if_neg (by omega)]
      simp; omega
theorem USteps.text {ps m qs : List Int} (hp : uPts ps) (h : USteps m qs) : USteps (uFlat ps ++ m) (ps ++ qs) := by
  induction ps with
  | nil => exact h
  | cons p ps ih =>
    rw [uFlat_cons, List.append_assoc]
    have hn := uEnc_pos p
    refine .good (uDec_enc _ hp.cons.1) (by omega) ?_
    rw [List.drop_left]
    exact ih hp.cons.2

/-- lexicographic order -/
def uCmp : List Int → List Int → Int
  | [], [] => 0
  | [], _ :: _ => -1
  | _ :: _, [] => 1
  | a :: x, b :: y => if a < b then -1 else if b < a then 1 else uCmp x y
theorem uCmp_self (x : List Int) : uCmp x x = 0 := by
  induction x with
  | nil => rfl
  | cons a x ih => simp [uCmp, ih]
theorem uCmp_neg (x y : List Int) : uCmp y x = - uCmp x y := by
  induction x generalizing y with
  | nil => cases y <;> simp [uCmp]
  | cons a x ih =>
    cases y with
    | nil => simp [uCmp]
    | cons b y =>
      simp only [uCmp]
      by_cases h : a < b
      · rw [if_pos h, if_neg (by omega), if_pos h]; rfl
      · by_cases g : b < a
        · simp [h, g]
        · simp [h, g, ih]
theorem uCmp_eq {x y : List Int} : uCmp x y = 0 ↔ x = y := by
  constructor
  · intro h
    induction x generalizing y with
    | nil => cases y <;> simp [uCmp] at h ⊢
    | cons a x ih =>
      cases y with
      | nil => simp [uCmp] at h
      | cons b y =>
        simp only [uCmp] at h
        split at h
        · omega
        · split at h
          · omega
          · rw [ih h, show a = b by omega]
  · rintro rfl; exact uCmp_self x
theorem uCmp_range (x y : List Int) : uCmp x y = -1 ∨ uCmp x y = 0 ∨ uCmp x y = 1 := by
  induction x generalizing y with
  | nil => cases y <;> simp [uCmp]
  | cons a x ih =>
    cases y with
    | nil => simp [uCmp]
    | cons b y =>
      simp only [uCmp]
      split
      · exact .inl rfl
      · split
        · exact .inr (.inr rfl)
        · exact ih y
theorem uCmp_trans {x y z : List Int} (h : uCmp x y ≤ 0) (g : uCmp y z ≤ 0) : uCmp x z ≤ 0 := by
  induction x generalizing y z with
  | nil => cases z <;> simp [uCmp]
  | cons a x ih =>
    cases y with
    | nil => simp [uCmp] at h
    | cons b y =>
      cases z with
      | nil => simp [uCmp] at g
      | cons c z =>
        simp only [uCmp] at h g ⊢
        by_cases h1 : a < b
        · by_cases g1 : c < b
          · rw [if_neg (by omega), if_pos g1] at g; omega
          · rw [if_pos (by omega)]; omega
        · rw [if_neg h1] at h
          by_cases h2 : b < a
          · rw [if_pos h2] at h; omega
          · rw [if_neg h2] at h
            have e : a = b := by omega
            subst e
            by_cases g1 : a < c
            · rw [if_pos g1]; omega
            · rw [if_neg g1] at g ⊢
              by_cases g2 : c < a
              · rw [if_pos g2] at g; omega
              · rw [if_neg g2] at g ⊢
                exact ih h g
theorem uCmp_append (x y z : List Int) : uCmp (x ++ y) (x ++ z) = uCmp y z := by
  induction x with
  | nil => rfl
  | cons a x ih => simp [uCmp, ih]
theorem uCmp_more {x : List Int} {a : Int} {y : List Int} : uCmp x (x ++ a :: y) = -1 := by
  have := uCmp_append x [] (a :: y)
  rw [List.append_nil] at this
  rw [this]; rfl
/-- the code units of steps -/
def uCodes (qs : List Int) : List Int := qs.flatMap sU
theorem uCodes_cons (q : Int) (qs : List Int) : uCodes (q :: qs) = sU q ++ uCodes qs := rfl
theorem uCodes_append (x y : List Int) : uCodes (x ++ y) = uCodes x ++ uCodes y := by simp [uCodes]
/-- a step's weight -/
def uW (q : Int) : Int := if q < 2000000 then (if q < 65536 then q * 65536 else (55296 + (q - 65536) / 1024) * 65536 + (56320 + (q - 65536) % 1024)) else (65536 + (q - 2000000)) * 65536
theorem uW_pos {q : Int} (h : sOk q) : 0 ≤ uW q := by
  unfold uW
  rcases h with h | h
  · have := uPt_iff.1 h
    rw [if_pos (by omega)]
    split <;> omega
  · rw [if_neg (by omega)]; omega
theorem uW_inj {q r : Int} (h : sOk q) (g : sOk r) (e : uW q = uW r) : q = r := by
  unfold uW at e
  rcases h with h | h
  · have h' := uPt_iff.1 h
    rw [if_pos (by omega : q < 2000000)] at e
    rcases g with g | g
    · have g' := uPt_iff.1 g
      rw [if_pos (by omega : r < 2000000)] at e
      split at e <;> split at e <;> omega
    · rw [if_neg (by omega : ¬ r < 2000000)] at e
      split at e <;> omega
  · rw [if_neg (by omega : ¬ q < 2000000)] at e
    rcases g with g | g
    · have g' := uPt_iff.1 g
      rw [if_pos (by omega : r < 2000000)] at e
      split at e <;> omega
    · rw [if_neg (by omega : ¬ r < 2000000)] at e
      omega
theorem uW_lt {q r : Int} {x y : List Int} (h : sOk q) (g : sOk r) (e : uW q < uW r) : uCmp (sU q ++ x) (sU r ++ y) = -1 := by
  unfold uW at e
  unfold sU uU
  rcases h with h | h
  · have h' := uPt_iff.1 h
    rw [if_pos (by omega : q < 2000000)] at e ⊢
    rcases g with g | g
    · have g' := uPt_iff.1 g
      rw [if_pos (by omega : r < 2000000)] at e ⊢
      split at e
      · rename_i a
        rw [if_pos a]
        split at e
        · rename_i b
          rw [if_pos b]
          simp only [List.cons_append, List.nil_append, uCmp]
          rw [if_pos (by omega)]
        · rename_i b
          rw [if_neg b]
          simp only [List.cons_append, List.nil_append, uCmp]
          rw [if_pos (by omega)]
      · rename_i a
        rw [if_neg a]
        split at e
        · rename_i b
          rw [if_pos b]
          simp only [List.cons_append, List.nil_append, uCmp]
          rw [if_pos (by omega)]
        · rename_i b
          rw [if_neg b]
          simp only [List.cons_append, List.nil_append, uCmp]
          by_cases c : 55296 + (q - 65536) / 1024 < 55296 + (r - 65536) / 1024
          · rw [if_pos c]
          · rw [if_neg c, if_neg (by omega), if_pos (by omega)]
    · rw [if_neg (by omega : ¬ r < 2000000)] at e ⊢
      split at e
      · rename_i a
        rw [if_pos a]
        simp only [List.cons_append, List.nil_append, uCmp]
        rw [if_pos (by omega)]
      · rename_i a
        rw [if_neg a]
        simp only [List.cons_append, List.nil_append, uCmp]
        rw [if_pos (by omega)]
  · rw [if_neg (by omega : ¬ q < 2000000)] at e ⊢
    rcases g with g | g
    · have g' := uPt_iff.1 g
      rw [if_pos (by omega : r < 2000000)] at e ⊢
      exfalso
      split at e <;> omega
    · rw [if_neg (by omega : ¬ r < 2000000)] at e ⊢
      simp only [List.cons_append, List.nil_append, uCmp]
      rw [if_pos (by omega)]
theorem uW_gt {q r : Int} {x y : List Int} (h : sOk q) (g : sOk r) (e : uW r < uW q) : uCmp (sU q ++ x) (sU r ++ y) = 1 := by
  rw [uCmp_neg, uW_lt g h e]; rfl
theorem sU_ne (q : Int) : sU q ≠ [] := by
  unfold sU uU
  split
  · split <;> simp
  · simp
theorem uCodes_inj {qs rs : List Int} (h : ∀ q ∈ qs, sOk q) (g : ∀ r ∈ rs, sOk r) (e : uCodes qs = uCodes rs) : qs = rs := by
  induction qs generalizing rs with
  | nil =>
    cases rs with
    | nil => rfl
    | cons r rs => exact absurd e.symm (by rw [uCodes_cons]; simp [uCodes, sU_ne])
  | cons q qs ih =>
    cases rs with
    | nil => exact absurd e (by rw [uCodes_cons]; simp [uCodes, sU_ne])
    | cons r rs =>
      have h1 := h q List.mem_cons_self
      have g1 := g r List.mem_cons_self
      rw [uCodes_cons, uCodes_cons] at e
      have z := uCmp_eq.2 e
      have k : q = r := by
        rcases Int.lt_or_le (uW q) (uW r) with a | a
        · rw [uW_lt h1 g1 a] at z; omega
        · rcases Int.lt_or_le (uW r) (uW q) with b | b
          · rw [uW_gt h1 g1 b] at z; omega
          · exact uW_inj h1 g1 (by omega)
      subst k
      rw [ih (fun x hx => h x (List.mem_cons_of_mem _ hx)) (fun x hx => g x (List.mem_cons_of_mem _ hx)) (List.append_cancel_left e)]
/-- of texts: which of two unlike code points is the greater -/
def uAbove (p q : Int) : Bool := if 65535 < p ∧ 57344 ≤ q ∧ q ≤ 65535 then false else if 65535 < q ∧ 57344 ≤ p ∧ p ≤ 65535 then true else decide (q < p)
theorem uAbove_iff {p q : Int} {x y : List Int} (h : uPt p = true) (g : uPt q = true) (hn : p ≠ q) : uCmp (sU p ++ x) (sU q ++ y) = if uAbove p q then 1 else -1 := by
  have h' := uPt_iff.1 h
  have g' := uPt_iff.1 g
  have key : uAbove p q = decide (uW q < uW p) := by
    unfold uAbove uW
    rw [if_pos (by omega : p < 2000000), if_pos (by omega : q < 2000000)]
    by_cases a : p < 65536
    · rw [if_pos a]
      by_cases b : q < 65536
      · rw [if_pos b, if_neg (by omega), if_neg (by omega)]
        rw [decide_eq_decide]; omega
      · rw [if_neg b, if_neg (by omega)]
        by_cases c : 65535 < q ∧ 57344 ≤ p ∧ p ≤ 65535
        · rw [if_pos c]; symm; rw [decide_eq_true_iff]; omega
        · rw [if_neg c, decide_eq_decide]; omega
    · rw [if_neg a]
      by_cases b : q < 65536
      · rw [if_pos b]
        by_cases c : 65535 < p ∧ 57344 ≤ q ∧ q ≤ 65535
        · rw [if_pos c]; symm; rw [decide_eq_false_iff_not]; omega
        · rw [if_neg c, if_neg (by omega), decide_eq_decide]; omega
      · rw [if_neg b, if_neg (by omega), if_neg (by omega), decide_eq_decide]; omega
  rw [key]
  by_cases a : uW q < uW p
  · rw [decide_eq_true a]; exact uW_gt (.inl h) (.inl g) a
  · rw [decide_eq_false a]
    have hne : uW p ≠ uW q := fun e => hn (uW_inj (.inl h) (.inl g) e)
    exact uW_lt (.inl h) (.inl g) (by omega)
end Go.Proofs.YtddamkdkaijfjaaGreatDoor
