/- bit by bit: the reference's answers in plain numbers. No Go text is met here. -/
import Derived.Test.YtlpddfocihlbcaaGreatDoorBMath
namespace Go.Proofs.YtlpddfocihlbcaaGreatDoor
set_option linter.unusedVariables false

def b8 (x : Int) : List Int := [x / 128 % 2, x / 64 % 2, x / 32 % 2, x / 16 % 2, x / 8 % 2, x / 4 % 2, x / 2 % 2, x % 2]
def bBits : List Int → List Int
  | [] => []
  | x :: r => b8 x ++ bBits r
theorem bBits_len (es : List Int) : (bBits es).length = 8 * es.length := by
  induction es with
  | nil => rfl
  | cons x r ih => simp only [bBits, List.length_append, ih, List.length_cons, b8, List.length_nil]; omega
theorem bBits_app (a b : List Int) : bBits (a ++ b) = bBits a ++ bBits b := by
  induction a with
  | nil => rfl
  | cons x r ih => simp only [bBits, List.cons_append, ih, List.append_assoc]
def bBin (l : List Int) : Prop := ∀ x ∈ l, 0 ≤ x ∧ x < 2
theorem bBits_bin (es : List Int) : bBin (bBits es) := by
  induction es with
  | nil => intro x hx; cases hx
  | cons y r ih =>
    intro x hx
    simp only [bBits, List.mem_append] at hx
    rcases hx with hx | hx
    · simp only [b8, List.mem_cons, List.not_mem_nil, or_false] at hx
      omega
    · exact ih x hx
theorem lb_bin {l : List Int} (h : bBin l) (i : Nat) : 0 ≤ Nt.lb l i ∧ Nt.lb l i < 2 := by
  by_cases hi : i < l.length
  · have e : Nt.lb l i = l[i] := by simp [Nt.lb, hi]
    rw [e]; exact h _ (List.getElem_mem hi)
  · have e : Nt.lb l i = 0 := by unfold Nt.lb; rw [List.getD_eq_getElem?_getD, List.getElem?_eq_none (by omega)]; rfl
    omega
/-- the number of n bits from a place on -/
def tk (l : List Int) (a : Nat) : Nat → Int
  | 0 => 0
  | n + 1 => tk l a n * 2 + Nt.lb l (a + n)
theorem tk_rng {l : List Int} (h : bBin l) (a n : Nat) : 0 ≤ tk l a n ∧ tk l a n < ((2 ^ n : Nat) : Int) := by
  induction n with
  | zero => simp [tk]
  | succ n ih =>
    have := lb_bin h (a + n)
    simp only [tk]
    have e : (2 ^ (n + 1) : Nat) = 2 ^ n * 2 := Nat.pow_succ ..
    rw [e]
    omega
theorem lb_drop (l : List Int) (a i : Nat) : Nt.lb (l.drop a) i = Nt.lb l (a + i) := by simp [Nt.lb, List.getElem?_drop]
theorem tk_drop (l : List Int) (a b n : Nat) : tk (l.drop a) b n = tk l (a + b) n := by
  induction n with
  | zero => rfl
  | succ n ih => simp only [tk, ih, lb_drop, Nat.add_assoc]
theorem bBits_drop (es : List Int) (k : Nat) : bBits (es.drop k) = (bBits es).drop (8 * k) := by
  induction k generalizing es with
  | zero => simp
  | succ k ih =>
    cases es with
    | nil => simp [bBits]
    | cons x r =>
      rw [List.drop_succ_cons, ih]
      show _ = (b8 x ++ bBits r).drop (8 * (k + 1))
      rw [List.drop_append, List.drop_eq_nil_of_le (show (b8 x).length ≤ 8 * (k + 1) by show 8 ≤ _; omega), List.nil_append]
      congr 1
/-- what told says: so many letters -/
def tl (l : List Int) (n : Nat) (al : List Int) : Nat → List Int
  | 0 => []
  | j + 1 => tl l n al j ++ [Nt.lb al (tk l (n * j) n).toNat]
theorem tl_len (l : List Int) (n : Nat) (al : List Int) (j : Nat) : (tl l n al j).length = j := by
  induction j with
  | zero => rfl
  | succ j ih => simp [tl, ih]
theorem tl_lb (l : List Int) (n : Nat) (al : List Int) {j q : Nat} (h : q < j) : Nt.lb (tl l n al j) q = Nt.lb al (tk l (n * q) n).toNat := by
  induction j with
  | zero => omega
  | succ j ih =>
    by_cases e : q = j
    · subst e
      have hl := tl_len l n al q
      simp only [tl, Nt.lb]
      rw [List.getD_eq_getElem?_getD, List.getElem?_append_right (by omega), hl]
      simp
    · rw [← ih (by omega)]
      have hl := tl_len l n al j
      simp only [tl, Nt.lb]
      rw [List.getD_eq_getElem?_getD, List.getElem?_append_left (by omega), List.getD_eq_getElem?_getD]
theorem list_lb {a b : List Int} (hl : a.length = b.length) (h : ∀ i, i < a.length → Nt.lb a i = Nt.lb b i) : a = b := by
  apply List.ext_getElem hl
  intro i h1 h2
  have := h i h1
  simpa [Nt.lb, h1, h2] using this
theorem tl_hex {es : List Int} (hb : uByt es) : tl (bBits es) 4 bDigs (2 * es.length) = bHex es := by
  apply list_lb
  · rw [tl_len, bHex_len]
  · intro i hi
    rw [tl_len] at hi
    rw [tl_lb _ _ _ hi]
    have key : ∀ (q r : Nat) (es : List Int), uByt es → r < 2 → q < es.length → Nt.lb bDigs (tk (bBits es) (8 * q + 4 * r) 4).toNat = Nt.lb (bHex es) (2 * q + r) := by
      intro q
      induction q with
      | zero =>
        intro r es hb hr hq
        match es, hq with
        | x :: t, _ =>
          have hx := hb.of_cons.1
          rcases (show r = 0 ∨ r = 1 by omega) with rfl | rfl
          · have e : tk (bBits (x :: t)) (8 * 0 + 4 * 0) 4 = x / 16 := by simp [tk, bBits, b8, Nt.lb]; omega
            rw [e]; rfl
          · have e : tk (bBits (x :: t)) (8 * 0 + 4 * 1) 4 = x % 16 := by simp [tk, bBits, b8, Nt.lb]; omega
            rw [e]; rfl
      | succ q ih =>
        intro r es hb hr hq
        match es, hq with
        | x :: t, hq =>
          have e1 : tk (bBits (x :: t)) (8 * (q + 1) + 4 * r) 4 = tk (bBits t) (8 * q + 4 * r) 4 := by
            have := tk_drop (bBits (x :: t)) 8 (8 * q + 4 * r) 4
            rw [show (bBits (x :: t)).drop 8 = bBits t from rfl] at this
            rw [this]; congr 1; omega
          rw [e1, ih r t hb.of_cons.2 hr (by simp only [List.length_cons] at hq; omega), show 2 * (q + 1) + r = (2 * q + r) + 2 by omega]
          rfl
    have := key (i / 2) (i % 2) es hb (by omega) (by omega)
    rw [show 8 * (i / 2) + 4 * (i % 2) = 4 * i by omega, show 2 * (i / 2) + i % 2 = i by omega] at this
    exact this
theorem six_at {es : List Int} (hb : uByt es) {r : Nat} (hr : r < 4) (hl : r < (b64 es).length) : Nt.lb bLets (tk (bBits es) (6 * r) 6).toNat = Nt.lb (b64 es) r := by
  match es with
  | [] => simp [b64] at hl
  | [a] =>
    have ha := hb.of_cons.1
    simp only [b64, List.length_cons, List.length_nil] at hl
    rcases (show r = 0 ∨ r = 1 by omega) with rfl | rfl
    · have e : tk (bBits [a]) (6 * 0) 6 = a / 4 := by simp [tk, bBits, b8, Nt.lb]; omega
      rw [e]; rfl
    · have e : tk (bBits [a]) (6 * 1) 6 = a % 4 * 16 := by simp [tk, bBits, b8, Nt.lb]; omega
      rw [e]; rfl
  | [a, b] =>
    have ha := hb.of_cons.1
    have hb' := hb.of_cons.2.of_cons.1
    simp only [b64, List.length_cons, List.length_nil] at hl
    rcases (show r = 0 ∨ r = 1 ∨ r = 2 by omega) with rfl | rfl | rfl
    · have e : tk (bBits [a, b]) (6 * 0) 6 = a / 4 := by simp [tk, bBits, b8, Nt.lb]; omega
      rw [e]; rfl
    · have e : tk (bBits [a, b]) (6 * 1) 6 = a % 4 * 16 + b / 16 := by simp [tk, bBits, b8, Nt.lb]; omega
      rw [e]; rfl
    · have e : tk (bBits [a, b]) (6 * 2) 6 = b % 16 * 4 := by simp [tk, bBits, b8, Nt.lb]; omega
      rw [e]; rfl
  | a :: b :: c :: t =>
    have ha := hb.of_cons.1
    have hb' := hb.of_cons.2.of_cons.1
    have hc := hb.of_cons.2.of_cons.2.of_cons.1
    rcases (show r = 0 ∨ r = 1 ∨ r = 2 ∨ r = 3 by omega) with rfl | rfl | rfl | rfl
    · have e : tk (bBits (a :: b :: c :: t)) (6 * 0) 6 = a / 4 := by simp [tk, bBits, b8, Nt.lb]; omega
      rw [e]; rfl
    · have e : tk (bBits (a :: b :: c :: t)) (6 * 1) 6 = a % 4 * 16 + b / 16 := by simp [tk, bBits, b8, Nt.lb]; omega
      rw [e]; rfl
    · have e : tk (bBits (a :: b :: c :: t)) (6 * 2) 6 = b % 16 * 4 + c / 64 := by simp [tk, bBits, b8, Nt.lb]; omega
      rw [e]; rfl
    · have e : tk (bBits (a :: b :: c :: t)) (6 * 3) 6 = c % 64 := by simp [tk, bBits, b8, Nt.lb]; omega
      rw [e]; rfl
theorem tl_six {es : List Int} (hb : uByt es) : tl (bBits es) 6 bLets ((8 * es.length + 5) / 6) = b64 es := by
  apply list_lb
  · rw [tl_len, b64_len]
  · intro i hi
    rw [tl_len] at hi
    rw [tl_lb _ _ _ hi]
    have h := six_at (es := es.drop (3 * (i / 4))) (fun x hx => hb x (List.mem_of_mem_drop hx)) (r := i % 4) (by omega) (by rw [b64_len, List.length_drop]; omega)
    rw [← b64_drop, lb_drop, bBits_drop, tk_drop, show 8 * (3 * (i / 4)) + 6 * (i % 4) = 6 * i by omega, show 4 * (i / 4) + i % 4 = i by omega] at h
    exact h

end Go.Proofs.YtlpddfocihlbcaaGreatDoor
