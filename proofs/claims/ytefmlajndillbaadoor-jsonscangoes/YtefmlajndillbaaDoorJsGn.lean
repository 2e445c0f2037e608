/- JsonscanGoes, plain: a measure; the byte with which it goes on -/
import Derived.Test.YtefmlajndillbaaDoorJsGm
namespace Go.Proofs.YtefmlajndillbaaDoor
open Go.RowKit
set_option linter.unusedVariables false

def mayL : List Int := [34, 93, 125, 58, 48, 128, 160, 144, 114, 117, 101, 97, 108, 115, 100, 99, 92]
def accB (s : Sc) (c : Int) : Bool := decide ((takeB c s).size = s.size + 1)
theorem acc_eq (m : Md) (z : Nat) (t : St) (c : Int) : accB ⟨m, z, t⟩ c = (stepB m c { t with ends := false }).1.isSome := by
  unfold accB takeB
  rcases stepB m c { t with ends := false } with ⟨_ | k, u⟩ <;> simp
def pRk (t : St) : Nat := if t.isKey then 4 else 1
def rankB : Md → St → Nat
  | .value, _ => 2 | .firstElement, _ => 2 | .firstKey, _ => 5 | .key, _ => 5 | .colon, _ => 3
  | .behind, _ => 0 | .wholePart, _ => 0 | .digits, _ => 0 | .fraction, _ => 0 | .power, _ => 0
  | .letter, t => t.word.length
  | .minus, _ => 1 | .point, _ => 1 | .exponent, _ => 1 | .sign, _ => 1
  | .piece, t => pRk t | .encoding, t => (4 - t.begun.length) + pRk t | .backslash, t => 1 + pRk t | .unit, t => 4 + pRk t | .behindD, t => 3 + pRk t
  | .digitsLeft, t => t.left.toNat + (if t.half then 6 + pRk t else pRk t)
  | .secondHalf, t => 6 + pRk t | .secondU, t => 5 + pRk t | .secondD, t => 4 + pRk t | .secondSpan, t => 3 + pRk t
def mu (s : Sc) : Nat := s.st.opn.length + rankB s.md s.st
theorem pRk_le (t : St) : 1 ≤ pRk t ∧ pRk t ≤ 4 := by unfold pRk; split <;> omega
theorem mu_le {s : Sc} (h : Liv s) : mu s ≤ 200 := by
  have h1 := h.good.core.len
  have h2 := pRk_le s.st
  have h3 := h.good.core.lf
  have h4 := h.nv.core.wn
  unfold mu
  have : rankB s.md s.st ≤ 16 := by
    cases hm : s.md <;> simp only [rankB] <;> (try split) <;> omega
  omega
/-- encodings can be gone on with -/
theorem dec_more (xs : List Int) (c : Int) (h : (uDec xs).2 ≠ 0) : (uDec (xs ++ [c])).2 ≠ 0 := by
  cases xs with
  | nil => simp [uDec] at h
  | cons a r =>
    simp only [List.cons_append, uDec] at h ⊢
    split at h
    · simp at h
    · rename_i h1
      rw [if_neg h1]
      split at h
      · simp at h
      · rename_i h2
        rw [if_neg (by simp; omega)]
        have e : (r ++ [c]).take ((uLead a).2 - 1) = r.take ((uLead a).2 - 1) := by rw [List.take_append_of_le_length (by omega)]
        rw [e]
        exact h
theorem fst_dec (l : List Int) (h : l ≠ []) : uFst l 0 = uDec l := by
  have hl : 0 < l.length := List.length_pos_iff.2 h
  have := uFst_in (es := l) (k := 0) hl
  simpa using this
theorem rch_ne {l : List Int} : rch l ≠ 0 ↔ ((uDec (l ++ [128, 128, 128])).2 ≠ 0 ∨ (uDec (l ++ [191, 191, 191])).2 ≠ 0) := by
  unfold rch
  rw [fst_dec _ (by simp), fst_dec _ (by simp)]
  omega
theorem ite_ne {p : Prop} [d : Decidable p] (h : p) {x : Int} {n : Nat} (hn : n ≠ 0) : ¬ (if p then (x, n) else ((0 : Int), 0)).2 = 0 := by rw [if_pos h]; exact hn
theorem sz_low3 {x : Int} (h : uSz (x * 64 + (191 - 128)) = 3) : uSz (x * 64 + (128 - 128)) = 3 := by
  unfold uSz at h ⊢
  split at h
  · rename_i hp
    have hp' := uPt_iff.1 hp
    have : uPt (x * 64 + (128 - 128)) = true := uPt_iff.2 (by omega)
    rw [if_pos this]
    split at h <;> (try omega)
    split at h <;> (try omega)
    split at h <;> (try omega)
    rw [if_neg (by omega), if_neg (by omega), if_pos (by omega)]
  · omega
theorem sz_low4 {x : Int} (h : uSz ((x * 64 + (191 - 128)) * 64 + (191 - 128)) = 4) : uSz ((x * 64 + (128 - 128)) * 64 + (128 - 128)) = 4 := by
  unfold uSz at h ⊢
  split at h
  · rename_i hp
    have hp' := uPt_iff.1 hp
    split at h <;> (try omega)
    split at h <;> (try omega)
    split at h <;> (try omega)
    have : uPt ((x * 64 + (128 - 128)) * 64 + (128 - 128)) = true := uPt_iff.2 (by omega)
    rw [if_pos this, if_neg (by omega), if_neg (by omega), if_neg (by omega)]
  · omega
theorem sz_last4 {x : Int} (h : uSz (x * 64 + (191 - 128)) = 4) : uSz (x * 64 + (128 - 128)) = 4 := by
  unfold uSz at h ⊢
  split at h
  · rename_i hp
    have hp' := uPt_iff.1 hp
    split at h <;> (try omega)
    split at h <;> (try omega)
    split at h <;> (try omega)
    have : uPt (x * 64 + (128 - 128)) = true := uPt_iff.2 (by omega)
    rw [if_pos this, if_neg (by omega), if_neg (by omega), if_neg (by omega)]
  · omega
theorem one_more : ∀ a : Fin 256, 1 < (uDec [(a.val : Int), 191, 191, 191]).2 → (uDec [(a.val : Int), 128, 128, 128]).2 ≠ 0 ∨ (uDec [(a.val : Int), 160, 128, 128, 128]).2 ≠ 0 ∨ (uDec [(a.val : Int), 144, 128, 128, 128]).2 ≠ 0 := by decide +kernel
theorem rch_next {l : List Int} (hb : uByt l) (h0 : l ≠ []) (h3 : l.length ≤ 3) (h : l.length < rch l) : rch (l ++ [128]) ≠ 0 ∨ rch (l ++ [160]) ≠ 0 ∨ rch (l ++ [144]) ≠ 0 := by
  by_cases hA : (uDec (l ++ [128, 128, 128])).2 ≠ 0
  · left
    rw [rch_ne]
    left
    have := dec_more _ 128 hA
    rw [show l ++ [128] ++ [128, 128, 128] = l ++ [128, 128, 128] ++ [128] by simp]
    exact this
  · have hB : l.length < (uDec (l ++ [191, 191, 191])).2 := by
      unfold rch at h
      rw [fst_dec _ (by simp), fst_dec _ (by simp)] at h
      omega
    match l, h0, h3 with
    | [a], _, _ =>
      have ha := hb a (by simp)
      have k := one_more ⟨a.toNat, by omega⟩
      simp only [show ((a.toNat : Nat) : Int) = a by omega] at k
      rcases k (by simpa using hB) with k | k | k
      · exact absurd k (by simpa using hA)
      · right; left; rw [rch_ne]; left; simpa using k
      · right; right; rw [rch_ne]; left; simpa using k
    | [a, b], _, _ =>
      exfalso
      apply hA
      simp only [List.cons_append, List.nil_append, uDec] at hB ⊢
      split at hB; · simp at hB
      rename_i g1
      split at hB; · simp at hB
      rename_i g2
      split at hB; · simp at hB
      rename_i g3
      split at hB
      · rename_i g4
        simp only [List.length_cons, List.length_nil] at hB g2
        have n34 : (uLead a).2 = 3 ∨ (uLead a).2 = 4 := by have := uLead_four a; omega
        rw [if_neg g1, if_neg (by simpa using g2)]
        rcases n34 with n | n
        · rw [n] at g3 g4 ⊢
          simp [uCont] at g3 ⊢
          simp only [List.take, uAcc] at g4 ⊢
          rw [if_neg (by omega)]
          exact @ite_ne _ _ (sz_low3 g4) _ _ (by omega)
        · rw [n] at g3 g4 ⊢
          simp [uCont] at g3 ⊢
          simp only [List.take, uAcc] at g4 ⊢
          rw [if_neg (by omega)]
          exact @ite_ne _ _ (sz_low4 g4) _ _ (by omega)
      · simp at hB
    | [a, b, c], _, _ =>
      exfalso
      apply hA
      simp only [List.cons_append, List.nil_append, uDec] at hB ⊢
      split at hB; · simp at hB
      rename_i g1
      split at hB; · simp at hB
      rename_i g2
      split at hB; · simp at hB
      rename_i g3
      split at hB
      · rename_i g4
        simp only [List.length_cons, List.length_nil] at hB g2
        have n : (uLead a).2 = 4 := by have := uLead_four a; omega
        rw [if_neg g1, if_neg (by simpa using g2)]
        rw [n] at g3 g4 ⊢
        simp [uCont] at g3 ⊢
        simp only [List.take, uAcc] at g4 ⊢
        rw [if_neg (by omega)]
        exact @ite_ne _ _ (sz_last4 g4) _ _ (by omega)
      · simp at hB

end Go.Proofs.YtefmlajndillbaaDoor
