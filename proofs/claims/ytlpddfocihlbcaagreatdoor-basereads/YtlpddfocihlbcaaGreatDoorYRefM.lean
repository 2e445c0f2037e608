/- what the reference reads, in plain numbers. No Go text is met here. -/
import Derived.Test.YtlpddfocihlbcaaGreatDoorBRefM
namespace Go.Proofs.YtlpddfocihlbcaaGreatDoor
set_option linter.unusedVariables false

/-- the last place of a letter among the first k; 0, if there is none -/
def lastIx (al : List Int) (c : Int) : Nat → Int
  | 0 => 0
  | k + 1 => if Nt.lb al k = c then (k : Int) else lastIx al c k
theorem lastIx_rng (al : List Int) (c : Int) (k : Nat) : 0 ≤ lastIx al c k ∧ (lastIx al c k < k ∨ lastIx al c k = 0) := by
  induction k with
  | zero => simp [lastIx]
  | succ k ih =>
    simp only [lastIx]
    split
    · omega
    · omega
/-- the n lowest bits -/
def bN (x : Int) : Nat → List Int
  | 0 => []
  | n + 1 => (x / (2 ^ n : Nat)) % 2 :: bN x n
theorem bN_len (x : Int) (n : Nat) : (bN x n).length = n := by
  induction n with
  | zero => rfl
  | succ n ih => simp [bN, ih]
theorem bN_bin (x : Int) (n : Nat) : bBin (bN x n) := by
  induction n with
  | zero => intro y hy; cases hy
  | succ n ih =>
    intro y hy
    simp only [bN, List.mem_cons] at hy
    rcases hy with rfl | hy
    · omega
    · exact ih y hy
theorem bN_drop (x : Int) {n k : Nat} (h : k < n) : (bN x n).take (n - (k + 1)) ++ [x / (2 ^ k : Nat) % 2] = (bN x n).take (n - k) := by
  induction n with
  | zero => omega
  | succ n ih =>
    by_cases e : k = n
    · subst e
      rw [Nat.sub_self, show k + 1 - k = 1 by omega]
      rfl
    · rw [show n + 1 - (k + 1) = (n - (k + 1)) + 1 by omega, show n + 1 - k = (n - k) + 1 by omega]
      simp only [bN, List.take_succ_cons, List.cons_append]
      rw [ih (by omega)]
def rBits (n : Nat) (al : List Int) : List Int → List Int
  | [] => []
  | c :: r => bN (lastIx al c al.length) n ++ rBits n al r
theorem rBits_len (n : Nat) (al es : List Int) : (rBits n al es).length = n * es.length := by
  induction es with
  | nil => rfl
  | cons c r ih => rw [rBits, List.length_append, bN_len, ih, List.length_cons, Nat.mul_succ]; omega
theorem rBits_app (n : Nat) (al a b : List Int) : rBits n al (a ++ b) = rBits n al a ++ rBits n al b := by
  induction a with
  | nil => rfl
  | cons x r ih => simp only [rBits, List.cons_append, ih, List.append_assoc]
theorem rBits_bin (n : Nat) (al es : List Int) : bBin (rBits n al es) := by
  induction es with
  | nil => intro x hx; cases hx
  | cons c r ih =>
    intro x hx
    rcases List.mem_append.1 hx with hx | hx
    · exact bN_bin _ _ x hx
    · exact ih x hx
/-- the whole bytes -/
def rdB (l : List Int) : Nat → List Int
  | 0 => []
  | j + 1 => rdB l j ++ [tk l (8 * j) 8]
theorem rdB_len (l : List Int) (j : Nat) : (rdB l j).length = j := by
  induction j with
  | zero => rfl
  | succ j ih => simp [rdB, ih]
theorem rdB_byt {l : List Int} (h : bBin l) (j : Nat) : uByt (rdB l j) := by
  induction j with
  | zero => intro x hx; cases hx
  | succ j ih =>
    intro x hx
    rcases List.mem_append.1 hx with hx | hx
    · exact ih x hx
    · rw [List.mem_singleton.1 hx]
      have := tk_rng h (8 * j) 8
      omega
theorem rdB_lb (l : List Int) {j q : Nat} (h : q < j) : Nt.lb (rdB l j) q = tk l (8 * q) 8 := by
  induction j with
  | zero => omega
  | succ j ih =>
    by_cases e : q = j
    · subst e
      have hl := rdB_len l q
      simp only [rdB, Nt.lb]
      rw [List.getD_eq_getElem?_getD, List.getElem?_append_right (by omega), hl]
      simp
    · rw [← ih (by omega)]
      have hl := rdB_len l j
      simp only [rdB, Nt.lb]
      rw [List.getD_eq_getElem?_getD, List.getElem?_append_left (by omega), List.getD_eq_getElem?_getD]
def rRead (n : Nat) (al es : List Int) : List Int := rdB (rBits n al es) ((rBits n al es).length / 8)
theorem rdB_bits {es : List Int} (hb : uByt es) (pad : List Int) : rdB (bBits es ++ pad) es.length = es := by
  apply list_lb
  · rw [rdB_len]
  · intro i hi
    rw [rdB_len] at hi
    rw [rdB_lb _ hi]
    have key : ∀ (i : Nat) (es : List Int), uByt es → i < es.length → tk (bBits es ++ pad) (8 * i) 8 = Nt.lb es i := by
      intro i
      induction i with
      | zero =>
        intro es hb hi
        match es, hi with
        | x :: t, _ =>
          have hx := hb.of_cons.1
          simp [tk, bBits, b8, Nt.lb]
          omega
      | succ i ih =>
        intro es hb hi
        match es, hi with
        | x :: t, hi =>
          have e := tk_drop (bBits (x :: t) ++ pad) 8 (8 * i) 8
          rw [show (bBits (x :: t) ++ pad).drop 8 = bBits t ++ pad from rfl, ih t hb.of_cons.2 (by simp only [List.length_cons] at hi; omega)] at e
          rw [show 8 * (i + 1) = 8 + 8 * i by omega, ← e]
          rfl
    exact key i es hb hi
theorem lastIx_dig {n : Int} (h0 : 0 ≤ n) (h1 : n < 16) : lastIx bDigs (bDig n) 16 = n := by
  have h : ∀ k : Fin 16, lastIx bDigs (bDig (k.val : Int)) 16 = (k.val : Int) := by decide +kernel
  have := h ⟨n.toNat, by omega⟩
  simp only [Int.toNat_of_nonneg h0] at this
  exact this
theorem lastIx_let {n : Int} (h0 : 0 ≤ n) (h1 : n < 64) : lastIx bLets (bLet n) 64 = n := by
  have h : ∀ k : Fin 64, lastIx bLets (bLet (k.val : Int)) 64 = (k.val : Int) := by decide +kernel
  have := h ⟨n.toNat, by omega⟩
  simp only [Int.toNat_of_nonneg h0] at this
  exact this
theorem rBits_hex {es : List Int} (hb : uByt es) : rBits 4 bDigs (bHex es) = bBits es := by
  induction es with
  | nil => rfl
  | cons x r ih =>
    have hx := hb.of_cons.1
    simp only [bHex, rBits, ih hb.of_cons.2, bBits]
    rw [show bDigs.length = 16 from rfl, lastIx_dig (by omega) (by omega), lastIx_dig (by omega) (by omega), ← List.append_assoc]
    congr 1
    simp only [bN, b8, List.cons_append, List.nil_append, List.cons.injEq, and_true]
    refine ⟨?_, ?_, ?_, ?_, ?_, ?_, ?_, ?_⟩ <;> omega
theorem rBits_six {es : List Int} (hb : uByt es) : ∃ pad, rBits 6 bLets (b64 es) = bBits es ++ pad := by
  induction es using b64.induct with
  | case1 => exact ⟨[], rfl⟩
  | case2 a =>
    have ha := hb.of_cons.1
    refine ⟨[0, 0, 0, 0], ?_⟩
    simp only [b64, rBits, bBits]
    rw [show bLets.length = 64 from rfl, lastIx_let (by omega) (by omega), lastIx_let (by omega) (by omega)]
    simp only [bN, b8, List.cons_append, List.nil_append, List.cons.injEq, and_true]
    refine ⟨?_, ?_, ?_, ?_, ?_, ?_, ?_, ?_, ?_, ?_, ?_, ?_⟩ <;> omega
  | case3 a b =>
    have ha := hb.of_cons.1
    have hb' := hb.of_cons.2.of_cons.1
    refine ⟨[0, 0], ?_⟩
    simp only [b64, rBits, bBits]
    rw [show bLets.length = 64 from rfl, lastIx_let (by omega) (by omega), lastIx_let (by omega) (by omega), lastIx_let (by omega) (by omega)]
    simp only [bN, b8, List.cons_append, List.nil_append, List.cons.injEq, and_true]
    refine ⟨?_, ?_, ?_, ?_, ?_, ?_, ?_, ?_, ?_, ?_, ?_, ?_, ?_, ?_, ?_, ?_, ?_, ?_⟩ <;> omega
  | case4 a b c r ih =>
    have ha := hb.of_cons.1
    have hb' := hb.of_cons.2.of_cons.1
    have hc := hb.of_cons.2.of_cons.2.of_cons.1
    obtain ⟨pad, hp⟩ := ih hb.of_cons.2.of_cons.2.of_cons.2
    refine ⟨pad, ?_⟩
    simp only [b64, rBits, bBits, hp]
    rw [show bLets.length = 64 from rfl, lastIx_let (by omega) (by omega), lastIx_let (by omega) (by omega), lastIx_let (by omega) (by omega), lastIx_let (by omega) (by omega)]
    simp only [bN, b8, List.cons_append, List.nil_append, List.cons.injEq, and_true]
    refine ⟨?_, ?_, ?_, ?_, ?_, ?_, ?_, ?_, ?_, ?_, ?_, ?_, ?_, ?_, ?_, ?_, ?_, ?_, ?_, ?_, ?_, ?_, ?_, ?_⟩ <;> omega
theorem rRead_hex {es : List Int} (hb : uByt es) : rRead 4 bDigs (bHex es) = es := by
  unfold rRead
  have h := rdB_bits hb []
  rw [List.append_nil] at h
  rw [rBits_hex hb, bBits_len, show 8 * es.length / 8 = es.length by omega]
  exact h
theorem rRead_six {es : List Int} (hb : uByt es) : rRead 6 bLets (b64 es) = es := by
  unfold rRead
  obtain ⟨pad, hp⟩ := rBits_six hb
  have hl := rBits_len 6 bLets (b64 es)
  rw [b64_len] at hl
  rw [hl, hp, show 6 * ((8 * es.length + 5) / 6) / 8 = es.length by omega]
  exact rdB_bits hb pad
theorem rRead_byt (n : Nat) (al es : List Int) : uByt (rRead n al es) := rdB_byt (rBits_bin n al es) _

end Go.Proofs.YtlpddfocihlbcaaGreatDoor
