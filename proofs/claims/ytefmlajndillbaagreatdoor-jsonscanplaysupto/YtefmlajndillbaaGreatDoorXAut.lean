/- literals in plain numbers: what stands so far, byte by byte. No Go text is met here. -/
import Derived.Test.YtefmlajndillbaaGreatDoorUMath
namespace Go.Proofs.YtefmlajndillbaaGreatDoor
set_option linter.unusedVariables false

/-- how far a literal is -/
inductive XS where
  | start | inn | stroke
  | digs (left : Nat) (num high : Int)
  | second (high : Int) | letter (high : Int)
  | byts (left : Nat) (low most : Int)
  | fin
deriving DecidableEq
def xDig (c : Int) : Int := if 48 ≤ c ∧ c ≤ 57 then c - 48 else if 97 ≤ c ∧ c ≤ 102 then c - 87 else if 65 ≤ c ∧ c ≤ 70 then c - 55 else -1
/-- what a letter behind a stroke says; -1: it is none -/
def xLet (c : Int) : Int := if c = 34 then 34 else if c = 92 then 92 else if c = 47 then 47 else if c = 98 then 8 else if c = 102 then 12 else if c = 110 then 10 else if c = 114 then 13 else if c = 116 then 9 else -1
def xLeft (c : Int) : Nat := if 240 ≤ c then 3 else if 224 ≤ c then 2 else 1
def xLow (c : Int) : Int := if c = 224 then 160 else if c = 240 then 144 else 128
def xMost (c : Int) : Int := if c = 237 then 159 else if c = 244 then 143 else 191
def xIn (c : Int) : Option (XS × List Int) :=
  if c = 34 then some (.fin, []) else if c = 92 then some (.stroke, [])
  else if c < 32 ∨ (127 < c ∧ c < 194) ∨ 244 < c then none
  else if c < 128 then some (.inn, [c]) else some (.byts (xLeft c) (xLow c) (xMost c), [c])
def xStr (c : Int) : Option (XS × List Int) :=
  if xLet c ≠ -1 then some (.inn, [xLet c]) else if c = 117 then some (.digs 4 0 0, []) else none
def xBar (l : Nat) (n h : Int) : Prop := (0 < h ∧ (l = 3 ∧ n ≠ 13 ∨ l = 2 ∧ ¬ (220 ≤ n ∧ n ≤ 223))) ∨ (h = 0 ∧ l = 2 ∧ 220 ≤ n ∧ n ≤ 223)
instance (l : Nat) (n h : Int) : Decidable (xBar l n h) := by unfold xBar; infer_instance
def xEnd (n h : Int) : XS × List Int :=
  if 0 < h then (.inn, uEnc (65536 + (h - 55296) * 1024 + n - 56320)) else if 55296 ≤ n ∧ n ≤ 56319 then (.second n, []) else (.inn, uEnc n)
def xDgs (l : Nat) (n h c : Int) : Option (XS × List Int) :=
  if xDig c < 0 then none
  else if xBar (l - 1) (16 * n + xDig c) h then none
  else if 0 < l - 1 then some (.digs (l - 1) (16 * n + xDig c) h, []) else some (xEnd (16 * n + xDig c) h)
def xByt (l : Nat) (lo mo c : Int) : Option (XS × List Int) :=
  if c < lo ∨ mo < c then none else some (if l - 1 = 0 then .inn else .byts (l - 1) 128 191, [c])
def xStep : XS → Int → Option (XS × List Int)
  | .start, c => if c = 34 then some (.inn, []) else none
  | .inn, c => xIn c
  | .stroke, c => xStr c
  | .digs l n h, c => xDgs l n h c
  | .second h, c => if c = 92 then some (.letter h, []) else none
  | .letter h, c => if c = 117 then some (.digs 4 0 h, []) else none
  | .byts l lo mo, c => xByt l lo mo c
  | .fin, _ => none
/-- some bytes on, no end among them -/
def xGo : XS → List Int → List Int → Option (XS × List Int)
  | σ, [], t => some (σ, t)
  | σ, c :: cs, t => match xStep σ c with
    | none => none
    | some (σ', u) => if σ' = .fin then none else xGo σ' cs (t ++ u)
inductive XO where
  | ok (t : List Int) (n : Nat)
  | bad (n : Nat)
deriving DecidableEq
/-- all bytes, to the end of the literal or the first wrong one -/
def xRun : XS → List Int → List Int → Nat → XO
  | σ, [], t, k => .bad k
  | σ, c :: cs, t, k => match xStep σ c with
    | none => .bad k
    | some (σ', u) => if σ' = .fin then .ok (t ++ u) (k + 1) else xRun σ' cs (t ++ u) (k + 1)

theorem xGo_nil (σ : XS) (t : List Int) : xGo σ [] t = some (σ, t) := rfl
theorem xGo_cons {σ σ' : XS} {c : Int} {cs t u : List Int} (h : xStep σ c = some (σ', u)) (hf : σ' ≠ .fin) : xGo σ (c :: cs) t = xGo σ' cs (t ++ u) := by
  rw [xGo, h]; simp only; rw [if_neg hf]
theorem xGo_app {σ σ' : XS} {bs cs t t' : List Int} (h : xGo σ bs t = some (σ', t')) : xGo σ (bs ++ cs) t = xGo σ' cs t' := by
  induction bs generalizing σ t with
  | nil => rw [xGo] at h; cases h; rfl
  | cons b bs ih =>
    rw [List.cons_append, xGo]
    rw [xGo] at h
    cases hs : xStep σ b with
    | none => rw [hs] at h; simp at h
    | some q =>
      obtain ⟨τ, u⟩ := q
      rw [hs] at h
      simp only at h ⊢
      by_cases hf : τ = .fin
      · rw [if_pos hf] at h; simp at h
      · rw [if_neg hf] at h ⊢
        exact ih h
theorem xRun_go {σ σ' : XS} {bs cs t t' : List Int} {k : Nat} (h : xGo σ bs t = some (σ', t')) : xRun σ (bs ++ cs) t k = xRun σ' cs t' (k + bs.length) := by
  induction bs generalizing σ t k with
  | nil => rw [xGo] at h; cases h; rfl
  | cons b bs ih =>
    rw [List.cons_append, xRun]
    rw [xGo] at h
    cases hs : xStep σ b with
    | none => rw [hs] at h; simp at h
    | some q =>
      obtain ⟨τ, u⟩ := q
      rw [hs] at h
      simp only at h ⊢
      by_cases hf : τ = .fin
      · rw [if_pos hf] at h; simp at h
      · rw [if_neg hf] at h ⊢
        rw [ih h, List.length_cons]
        congr 1
        omega
theorem xRun_end {σ : XS} {t : List Int} {k : Nat} : xRun σ [] t k = .bad k := rfl
theorem xRun_bad {σ : XS} {c : Int} {cs t : List Int} {k : Nat} (h : xStep σ c = none) : xRun σ (c :: cs) t k = .bad k := by
  rw [xRun, h]
theorem xRun_fin {σ : XS} {c : Int} {cs t u : List Int} {k : Nat} (h : xStep σ c = some (.fin, u)) : xRun σ (c :: cs) t k = .ok (t ++ u) (k + 1) := by
  rw [xRun, h]; rfl
theorem xRun_step {σ σ' : XS} {c : Int} {cs t u : List Int} {k : Nat} (h : xStep σ c = some (σ', u)) (hf : σ' ≠ .fin) : xRun σ (c :: cs) t k = xRun σ' cs (t ++ u) (k + 1) := by
  rw [xRun, h]; simp only; rw [if_neg hf]
/-- text ahead is ahead -/
theorem xRun_pre (σ : XS) (cs t : List Int) (k : Nat) : xRun σ cs t k = match xRun σ cs [] 0 with | .ok u n => .ok (t ++ u) (k + n) | .bad n => .bad (k + n) := by
  have gen : ∀ (cs : List Int) (σ : XS) (t u : List Int) (k j : Nat), xRun σ cs (t ++ u) (k + j) = match xRun σ cs u j with | .ok v n => .ok (t ++ v) (k + n) | .bad n => .bad (k + n) := by
    intro cs
    induction cs with
    | nil => intro σ t u k j; rfl
    | cons c cs ih =>
      intro σ t u k j
      rw [xRun, xRun]
      cases hs : xStep σ c with
      | none => rfl
      | some q =>
        obtain ⟨τ, v⟩ := q
        simp only
        by_cases hf : τ = .fin
        · rw [if_pos hf, if_pos hf, List.append_assoc]; rfl
        · rw [if_neg hf, if_neg hf, List.append_assoc, Nat.add_assoc, ih]
  have := gen cs σ t [] k 0
  rwa [List.append_nil, Nat.add_zero] at this

/-! ### encodings -/
theorem xLead_two {a : Int} (h0 : 192 ≤ a) (h1 : a < 224) : uLead a = (a - 192, 2) := by
  unfold uLead; rw [if_neg (by omega), if_neg (by omega), if_pos h1]
theorem xLead_three {a : Int} (h0 : 224 ≤ a) (h1 : a < 240) : uLead a = (a - 224, 3) := by
  unfold uLead; rw [if_neg (by omega), if_neg (by omega), if_neg (by omega), if_pos h1]
theorem xLead_four {a : Int} (h0 : 240 ≤ a) (h1 : a < 248) : uLead a = (a - 240, 4) := by
  unfold uLead; rw [if_neg (by omega), if_neg (by omega), if_neg (by omega), if_neg (by omega), if_pos h1]
theorem xLead_none {a : Int} (h0 : 128 ≤ a) (h1 : a < 192 ∨ 248 ≤ a) : uLead a = (0, 0) := by
  unfold uLead; rw [if_neg (by omega)]
  by_cases h : a < 192
  · rw [if_pos h]
  · rw [if_neg h, if_neg (by omega), if_neg (by omega), if_neg (by omega)]
theorem uCont_iff {c : Int} : uCont c = true ↔ 128 ≤ c ∧ c < 192 := by unfold uCont; simp
theorem uSz_two {p : Int} : uSz p = 2 ↔ 128 ≤ p ∧ p < 2048 := by
  unfold uSz
  cases h : uPt p
  · have : ¬ (0 ≤ p ∧ p ≤ 1114111 ∧ (p < 55296 ∨ 57343 < p)) := by rw [← uPt_iff, h]; simp
    simp; omega
  · simp; split; omega; split; omega; split <;> omega
theorem uSz_three {p : Int} : uSz p = 3 ↔ 2048 ≤ p ∧ p < 65536 ∧ (p < 55296 ∨ 57343 < p) := by
  unfold uSz
  cases h : uPt p
  · have : ¬ (0 ≤ p ∧ p ≤ 1114111 ∧ (p < 55296 ∨ 57343 < p)) := by rw [← uPt_iff, h]; simp
    simp; omega
  · have := uPt_iff.1 h
    simp; split; omega; split; omega; split <;> omega
theorem uSz_four {p : Int} : uSz p = 4 ↔ 65536 ≤ p ∧ p ≤ 1114111 := by
  unfold uSz
  cases h : uPt p
  · have : ¬ (0 ≤ p ∧ p ≤ 1114111 ∧ (p < 55296 ∨ 57343 < p)) := by rw [← uPt_iff, h]; simp
    simp; omega
  · have := uPt_iff.1 h
    simp; split; omega; split; omega; split <;> omega
theorem xDec_two {a b : Int} {r : List Int} (h0 : 192 ≤ a) (h1 : a < 224) : (uDec (a :: b :: r)).2 ≠ 0 ↔ (128 ≤ b ∧ b < 192) ∧ 194 ≤ a := by
  rw [uDec, xLead_two h0 h1]
  simp only [List.length_cons]
  rw [if_neg (by omega), if_neg (by omega)]
  simp only [show (2 - 1 : Nat) = 1 from rfl, List.take_succ_cons, List.take_zero, uAcc, List.all_cons, List.all_nil, Bool.and_true]
  cases hc : uCont b
  · have : ¬ (128 ≤ b ∧ b < 192) := by rw [← uCont_iff, hc]; simp
    simp; omega
  · have := uCont_iff.1 hc
    simp only [Bool.true_eq_false, if_false]
    by_cases hs : uSz ((a - 192) * 64 + (b - 128)) = 2
    · rw [if_pos hs]; have := uSz_two.1 hs; simp; omega
    · rw [if_neg hs]; rw [uSz_two] at hs; simp; omega
theorem xDec_three {a b c : Int} {r : List Int} (h0 : 224 ≤ a) (h1 : a < 240) : (uDec (a :: b :: c :: r)).2 ≠ 0 ↔ (128 ≤ b ∧ b < 192) ∧ (128 ≤ c ∧ c < 192) ∧ (a = 224 → 160 ≤ b) ∧ (a = 237 → b < 160) := by
  rw [uDec, xLead_three h0 h1]
  simp only [List.length_cons]
  rw [if_neg (by omega), if_neg (by omega)]
  simp only [show (3 - 1 : Nat) = 2 from rfl, List.take_succ_cons, List.take_zero, uAcc, List.all_cons, List.all_nil, Bool.and_true]
  cases hc : uCont b
  · have : ¬ (128 ≤ b ∧ b < 192) := by rw [← uCont_iff, hc]; simp
    simp; omega
  · cases hd : uCont c
    · have : ¬ (128 ≤ c ∧ c < 192) := by rw [← uCont_iff, hd]; simp
      simp; omega
    · have := uCont_iff.1 hc
      have := uCont_iff.1 hd
      simp only [Bool.and_true, Bool.true_eq_false, if_false]
      by_cases hs : uSz (((a - 224) * 64 + (b - 128)) * 64 + (c - 128)) = 3
      · rw [if_pos hs]; have := uSz_three.1 hs; simp; omega
      · rw [if_neg hs]; rw [uSz_three] at hs; simp; omega
theorem xDec_four {a b c d : Int} {r : List Int} (h0 : 240 ≤ a) (h1 : a < 248) : (uDec (a :: b :: c :: d :: r)).2 ≠ 0 ↔ (128 ≤ b ∧ b < 192) ∧ (128 ≤ c ∧ c < 192) ∧ (128 ≤ d ∧ d < 192) ∧ (a = 240 → 144 ≤ b) ∧ (a = 244 → b < 144) ∧ a ≤ 244 := by
  rw [uDec, xLead_four h0 h1]
  simp only [List.length_cons]
  rw [if_neg (by omega), if_neg (by omega)]
  simp only [show (4 - 1 : Nat) = 3 from rfl, List.take_succ_cons, List.take_zero, uAcc, List.all_cons, List.all_nil, Bool.and_true]
  cases hc : uCont b
  · have : ¬ (128 ≤ b ∧ b < 192) := by rw [← uCont_iff, hc]; simp
    simp; omega
  · cases hd : uCont c
    · have : ¬ (128 ≤ c ∧ c < 192) := by rw [← uCont_iff, hd]; simp
      simp; omega
    · cases he : uCont d
      · have : ¬ (128 ≤ d ∧ d < 192) := by rw [← uCont_iff, he]; simp
        simp; omega
      · have := uCont_iff.1 hc
        have := uCont_iff.1 hd
        have := uCont_iff.1 he
        simp only [Bool.and_true, Bool.true_eq_false, if_false]
        by_cases hs : uSz ((((a - 240) * 64 + (b - 128)) * 64 + (c - 128)) * 64 + (d - 128)) = 4
        · rw [if_pos hs]; have := uSz_four.1 hs; simp; omega
        · rw [if_neg hs]; rw [uSz_four] at hs; simp; omega
theorem xDec_none {a : Int} {r : List Int} (h0 : 128 ≤ a) (h1 : a < 192 ∨ 248 ≤ a) : (uDec (a :: r)).2 = 0 := by
  rw [uDec, xLead_none h0 h1]; rfl
theorem xDec_one {a : Int} {r : List Int} (h0 : 0 ≤ a) (h1 : a < 128) : uDec (a :: r) = (a, 1) := by
  have : uLead a = (a, 1) := by unfold uLead; rw [if_pos h1]
  rw [uDec, this]
  have hs : uSz a = 1 := by unfold uSz; rw [if_pos (uPt_iff.2 (by omega)), if_pos h1]
  simp [uAcc, hs]
/-- can these bytes be gone on with? -/
def xBeg (u : List Int) : Bool := (uDec (u ++ [128, 128, 128])).2 != 0 || (uDec (u ++ [191, 191, 191])).2 != 0
theorem xBeg_iff {u : List Int} : xBeg u = true ↔ (uDec (u ++ [128, 128, 128])).2 ≠ 0 ∨ (uDec (u ++ [191, 191, 191])).2 ≠ 0 := by unfold xBeg; simp
theorem xBeg_no {u : List Int} : xBeg u = false ↔ ¬ ((uDec (u ++ [128, 128, 128])).2 ≠ 0 ∨ (uDec (u ++ [191, 191, 191])).2 ≠ 0) := by rw [← xBeg_iff]; simp
theorem xIn_byts {a : Int} (h0 : 194 ≤ a) (h1 : a ≤ 244) : xStep .inn a = some (.byts (xLeft a) (xLow a) (xMost a), [a]) := by
  show xIn a = _
  unfold xIn; rw [if_neg (by omega), if_neg (by omega), if_neg (by omega), if_neg (by omega)]
theorem xIn_none {a : Int} (h : a < 32 ∨ (127 < a ∧ a < 194) ∨ 244 < a) : xStep .inn a = none := by
  show xIn a = _
  unfold xIn; rw [if_neg (by omega), if_neg (by omega), if_pos h]
theorem xIn_self {a : Int} (h0 : 32 ≤ a) (h1 : a < 128) (h2 : a ≠ 34) (h3 : a ≠ 92) : xStep .inn a = some (.inn, [a]) := by
  show xIn a = _
  unfold xIn; rw [if_neg h2, if_neg h3, if_neg (by omega), if_pos h1]
theorem xBeg_one {a : Int} (h0 : 128 ≤ a) : xBeg [a] = true ↔ 194 ≤ a ∧ a ≤ 244 := by
  rw [xBeg_iff]
  simp only [List.cons_append, List.nil_append]
  by_cases h1 : a < 192 ∨ 248 ≤ a
  · rw [xDec_none h0 h1, xDec_none h0 h1]; simp; omega
  · by_cases h2 : a < 224
    · rw [xDec_two (by omega) h2, xDec_two (by omega) h2]; omega
    · by_cases h3 : a < 240
      · rw [xDec_three (by omega) h3, xDec_three (by omega) h3]; omega
      · rw [xDec_four (by omega) (by omega), xDec_four (by omega) (by omega)]; omega
theorem xBeg_two {a b : Int} (h0 : 194 ≤ a) (h1 : a ≤ 244) : xBeg [a, b] = true ↔ xLow a ≤ b ∧ b ≤ xMost a := by
  rw [xBeg_iff]
  simp only [List.cons_append, List.nil_append]
  unfold xLow xMost
  by_cases h2 : a < 224
  · rw [xDec_two (by omega) h2, xDec_two (by omega) h2, if_neg (by omega), if_neg (by omega), if_neg (by omega), if_neg (by omega)]; omega
  · by_cases h3 : a < 240
    · rw [xDec_three (by omega) h3, xDec_three (by omega) h3]
      split <;> split <;> (try split) <;> (try split) <;> omega
    · rw [xDec_four (by omega) (by omega), xDec_four (by omega) (by omega)]
      split <;> split <;> (try split) <;> (try split) <;> omega
theorem xBeg_three {a b c : Int} (h0 : 224 ≤ a) (h1 : a ≤ 244) (hb : xLow a ≤ b ∧ b ≤ xMost a) : xBeg [a, b, c] = true ↔ 128 ≤ c ∧ c ≤ 191 := by
  rw [xBeg_iff]
  simp only [List.cons_append, List.nil_append]
  unfold xLow xMost at hb
  by_cases h3 : a < 240
  · rw [xDec_three (by omega) h3, xDec_three (by omega) h3]
    split at hb <;> split at hb <;> (try split at hb) <;> (try split at hb) <;> omega
  · rw [xDec_four (by omega) (by omega), xDec_four (by omega) (by omega)]
    split at hb <;> split at hb <;> (try split at hb) <;> (try split at hb) <;> omega
theorem xBeg_four {a b c d : Int} (h0 : 240 ≤ a) (h1 : a ≤ 244) (hb : xLow a ≤ b ∧ b ≤ xMost a) (hc : 128 ≤ c ∧ c ≤ 191) : xBeg [a, b, c, d] = true ↔ 128 ≤ d ∧ d ≤ 191 := by
  rw [xBeg_iff]
  simp only [List.cons_append, List.nil_append]
  unfold xLow xMost at hb
  rw [xDec_four (by omega) (by omega), xDec_four (by omega) (by omega)]
  split at hb <;> split at hb <;> (try split at hb) <;> (try split at hb) <;> omega
theorem xRng {a b : Int} (hb : xLow a ≤ b ∧ b ≤ xMost a) : 128 ≤ b ∧ b < 192 ∧ (a = 224 → 160 ≤ b) ∧ (a = 237 → b < 160) ∧ (a = 240 → 144 ≤ b) ∧ (a = 244 → b < 144) := by
  unfold xLow xMost at hb
  split at hb <;> split at hb <;> (try split at hb) <;> (try split at hb) <;> omega
theorem xRng_mk {a b : Int} (h1 : 128 ≤ b) (h2 : b < 192) (h3 : a = 224 → 160 ≤ b) (h4 : a = 237 → b < 160) (h5 : a = 240 → 144 ≤ b) (h6 : a = 244 → b < 144) : xLow a ≤ b ∧ b ≤ xMost a := by
  unfold xLow xMost
  split <;> split <;> (try split) <;> (try split) <;> omega

theorem xByt_yes {l : Nat} {lo mo c : Int} (h : lo ≤ c ∧ c ≤ mo) (hl : 2 ≤ l) : xStep (.byts l lo mo) c = some (.byts (l - 1) 128 191, [c]) := by
  show xByt l lo mo c = _
  unfold xByt; rw [if_neg (by omega), if_neg (by omega)]
theorem xByt_last {lo mo c : Int} (h : lo ≤ c ∧ c ≤ mo) : xStep (.byts 1 lo mo) c = some (.inn, [c]) := by
  show xByt 1 lo mo c = _
  unfold xByt; rw [if_neg (by omega), if_pos rfl]
theorem xByt_no {l : Nat} {lo mo c : Int} (h : ¬ (lo ≤ c ∧ c ≤ mo)) : xStep (.byts l lo mo) c = none := by
  show xByt l lo mo c = _
  unfold xByt; rw [if_pos (by omega)]
theorem xLeft_one {a : Int} (h : a < 224) : xLeft a = 1 := by unfold xLeft; rw [if_neg (by omega), if_neg (by omega)]
theorem xLeft_two {a : Int} (h : 224 ≤ a) (h1 : a < 240) : xLeft a = 2 := by unfold xLeft; rw [if_neg (by omega), if_pos h]
theorem xLeft_three {a : Int} (h : 240 ≤ a) : xLeft a = 3 := by unfold xLeft; rw [if_pos h]

/-- an encoding that stands for itself is taken whole -/
theorem xGo_enc {p : Int} {t : List Int} (hp : uPt p = true) (h0 : 32 ≤ p) (h1 : p ≠ 34) (h2 : p ≠ 92) : xGo .inn (uEnc p) t = some (.inn, t ++ uEnc p) := by
  have hq := uPt_iff.1 hp
  unfold uEnc
  by_cases g1 : p < 128
  · rw [if_pos g1, xGo_cons (xIn_self h0 g1 h1 h2) (by simp)]; rfl
  · rw [if_neg g1]
    by_cases g2 : p < 2048
    · rw [if_pos g2, xGo_cons (xIn_byts (by omega) (by omega)) (by simp), xLeft_one (by omega), xGo_cons (xByt_last (xRng_mk (by omega) (by omega) (by omega) (by omega) (by omega) (by omega))) (by simp)]
      simp [xGo]
    · rw [if_neg g2]
      by_cases g3 : p < 65536
      · rw [if_pos g3, xGo_cons (xIn_byts (by omega) (by omega)) (by simp), xLeft_two (by omega) (by omega), xGo_cons (xByt_yes (xRng_mk (by omega) (by omega) (by omega) (by omega) (by omega) (by omega)) (by omega)) (by simp), xGo_cons (xByt_last (by omega)) (by simp)]
        simp [xGo]
      · rw [if_neg g3, xGo_cons (xIn_byts (by omega) (by omega)) (by simp), xLeft_three (by omega), xGo_cons (xByt_yes (xRng_mk (by omega) (by omega) (by omega) (by omega) (by omega) (by omega)) (by omega)) (by simp), xGo_cons (xByt_yes (by omega) (by omega)) (by simp), xGo_cons (xByt_last (by omega)) (by simp)]
        simp [xGo]

end Go.Proofs.YtefmlajndillbaaGreatDoor
