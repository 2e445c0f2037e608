/- JsonscanGoes, plain: the next byte -/
import Derived.Test.YtefmlajndillbaaDoorJsGn
namespace Go.Proofs.YtefmlajndillbaaDoor
open Go.RowKit
set_option linter.unusedVariables false

/-- the byte with which it goes on -/
def Nx (s : Sc) : Prop := ∃ c, mayL.find? (accB s) = some c ∧ mu (takeB c s) < mu s
theorem find_at {s : Sc} {c : Int} {l r : List Int} (h : mayL = l ++ c :: r) (h0 : ∀ b ∈ l, accB s b = false) (h1 : accB s c = true) : mayL.find? (accB s) = some c := by
  rw [h, List.find?_append]
  have : l.find? (accB s) = none := List.find?_eq_none.2 fun b hb => by simp [h0 b hb]
  rw [this]
  simp [h1]
theorem nx_value (z : Nat) (t : St) : Nx ⟨.value, z, t⟩ := by
  refine ⟨34, find_at (l := []) (r := [93, 125, 58, 48, 128, 160, 144, 114, 117, 101, 97, 108, 115, 100, 99, 92]) rfl ?_ ?_, ?_⟩
  · intro b hb; simp at hb
  · rw [acc_eq]; rfl
  · show t.opn.length + 1 < t.opn.length + 2
    omega
theorem nx_firstElement (z : Nat) (t : St) : Nx ⟨.firstElement, z, t⟩ := by
  refine ⟨34, find_at (l := []) (r := [93, 125, 58, 48, 128, 160, 144, 114, 117, 101, 97, 108, 115, 100, 99, 92]) rfl ?_ ?_, ?_⟩
  · intro b hb; simp at hb
  · rw [acc_eq]; rfl
  · show t.opn.length + 1 < t.opn.length + 2
    omega
theorem nx_firstKey (z : Nat) (t : St) : Nx ⟨.firstKey, z, t⟩ := by
  refine ⟨34, find_at (l := []) (r := [93, 125, 58, 48, 128, 160, 144, 114, 117, 101, 97, 108, 115, 100, 99, 92]) rfl ?_ ?_, ?_⟩
  · intro b hb; simp at hb
  · rw [acc_eq]; rfl
  · show t.opn.length + 4 < t.opn.length + 5
    omega
theorem nx_key (z : Nat) (t : St) : Nx ⟨.key, z, t⟩ := by
  refine ⟨34, find_at (l := []) (r := [93, 125, 58, 48, 128, 160, 144, 114, 117, 101, 97, 108, 115, 100, 99, 92]) rfl ?_ ?_, ?_⟩
  · intro b hb; simp at hb
  · rw [acc_eq]; rfl
  · show t.opn.length + 4 < t.opn.length + 5
    omega
theorem nx_colon (z : Nat) (t : St) : Nx ⟨.colon, z, t⟩ := by
  refine ⟨58, find_at (l := [34, 93, 125]) (r := [48, 128, 160, 144, 114, 117, 101, 97, 108, 115, 100, 99, 92]) rfl ?_ ?_, ?_⟩
  · intro b hb
    simp only [List.mem_cons, List.not_mem_nil, or_false] at hb
    rcases hb with rfl | rfl | rfl <;> (rw [acc_eq]; rfl)
  · rw [acc_eq]; rfl
  · show t.opn.length + 2 < t.opn.length + 3
    omega
theorem nx_minus (z : Nat) (t : St) : Nx ⟨.minus, z, t⟩ := by
  refine ⟨48, find_at (l := [34, 93, 125, 58]) (r := [128, 160, 144, 114, 117, 101, 97, 108, 115, 100, 99, 92]) rfl ?_ ?_, ?_⟩
  · intro b hb
    simp only [List.mem_cons, List.not_mem_nil, or_false] at hb
    rcases hb with rfl | rfl | rfl | rfl <;> (rw [acc_eq]; rfl)
  · rw [acc_eq]; rfl
  · show t.opn.length + 0 < t.opn.length + 1
    omega
theorem nx_point (z : Nat) (t : St) : Nx ⟨.point, z, t⟩ := by
  refine ⟨48, find_at (l := [34, 93, 125, 58]) (r := [128, 160, 144, 114, 117, 101, 97, 108, 115, 100, 99, 92]) rfl ?_ ?_, ?_⟩
  · intro b hb
    simp only [List.mem_cons, List.not_mem_nil, or_false] at hb
    rcases hb with rfl | rfl | rfl | rfl <;> (rw [acc_eq]; rfl)
  · rw [acc_eq]; rfl
  · show t.opn.length + 0 < t.opn.length + 1
    omega
theorem nx_exponent (z : Nat) (t : St) : Nx ⟨.exponent, z, t⟩ := by
  refine ⟨48, find_at (l := [34, 93, 125, 58]) (r := [128, 160, 144, 114, 117, 101, 97, 108, 115, 100, 99, 92]) rfl ?_ ?_, ?_⟩
  · intro b hb
    simp only [List.mem_cons, List.not_mem_nil, or_false] at hb
    rcases hb with rfl | rfl | rfl | rfl <;> (rw [acc_eq]; rfl)
  · rw [acc_eq]; rfl
  · show t.opn.length + 0 < t.opn.length + 1
    omega
theorem nx_sign (z : Nat) (t : St) : Nx ⟨.sign, z, t⟩ := by
  refine ⟨48, find_at (l := [34, 93, 125, 58]) (r := [128, 160, 144, 114, 117, 101, 97, 108, 115, 100, 99, 92]) rfl ?_ ?_, ?_⟩
  · intro b hb
    simp only [List.mem_cons, List.not_mem_nil, or_false] at hb
    rcases hb with rfl | rfl | rfl | rfl <;> (rw [acc_eq]; rfl)
  · rw [acc_eq]; rfl
  · show t.opn.length + 0 < t.opn.length + 1
    omega
theorem nx_backslash (z : Nat) (t : St) : Nx ⟨.backslash, z, t⟩ := by
  refine ⟨34, find_at (l := []) (r := [93, 125, 58, 48, 128, 160, 144, 114, 117, 101, 97, 108, 115, 100, 99, 92]) rfl ?_ ?_, ?_⟩
  · intro b hb; simp at hb
  · rw [acc_eq]; rfl
  · show t.opn.length + pRk t < t.opn.length + (1 + pRk t)
    omega
theorem nx_unit (z : Nat) (t : St) : Nx ⟨.unit, z, t⟩ := by
  refine ⟨48, find_at (l := [34, 93, 125, 58]) (r := [128, 160, 144, 114, 117, 101, 97, 108, 115, 100, 99, 92]) rfl ?_ ?_, ?_⟩
  · intro b hb
    simp only [List.mem_cons, List.not_mem_nil, or_false] at hb
    rcases hb with rfl | rfl | rfl | rfl <;> (rw [acc_eq]; rfl)
  · rw [acc_eq]; rfl
  · show t.opn.length + (3 + pRk t) < t.opn.length + (4 + pRk t)
    omega
theorem nx_behindD (z : Nat) (t : St) : Nx ⟨.behindD, z, t⟩ := by
  refine ⟨48, find_at (l := [34, 93, 125, 58]) (r := [128, 160, 144, 114, 117, 101, 97, 108, 115, 100, 99, 92]) rfl ?_ ?_, ?_⟩
  · intro b hb
    simp only [List.mem_cons, List.not_mem_nil, or_false] at hb
    rcases hb with rfl | rfl | rfl | rfl <;> (rw [acc_eq]; rfl)
  · rw [acc_eq]; rfl
  · show t.opn.length + (2 + pRk t) < t.opn.length + (3 + pRk t)
    omega
theorem nx_secondHalf (z : Nat) (t : St) : Nx ⟨.secondHalf, z, t⟩ := by
  refine ⟨92, find_at (l := [34, 93, 125, 58, 48, 128, 160, 144, 114, 117, 101, 97, 108, 115, 100, 99]) (r := []) rfl ?_ ?_, ?_⟩
  · intro b hb
    simp only [List.mem_cons, List.not_mem_nil, or_false] at hb
    rcases hb with rfl | rfl | rfl | rfl | rfl | rfl | rfl | rfl | rfl | rfl | rfl | rfl | rfl | rfl | rfl | rfl <;> (rw [acc_eq]; rfl)
  · rw [acc_eq]; rfl
  · show t.opn.length + (5 + pRk t) < t.opn.length + (6 + pRk t)
    omega
theorem nx_secondU (z : Nat) (t : St) : Nx ⟨.secondU, z, t⟩ := by
  refine ⟨117, find_at (l := [34, 93, 125, 58, 48, 128, 160, 144, 114]) (r := [101, 97, 108, 115, 100, 99, 92]) rfl ?_ ?_, ?_⟩
  · intro b hb
    simp only [List.mem_cons, List.not_mem_nil, or_false] at hb
    rcases hb with rfl | rfl | rfl | rfl | rfl | rfl | rfl | rfl | rfl <;> (rw [acc_eq]; rfl)
  · rw [acc_eq]; rfl
  · show t.opn.length + (4 + pRk t) < t.opn.length + (5 + pRk t)
    omega
theorem nx_secondD (z : Nat) (t : St) : Nx ⟨.secondD, z, t⟩ := by
  refine ⟨100, find_at (l := [34, 93, 125, 58, 48, 128, 160, 144, 114, 117, 101, 97, 108, 115]) (r := [99, 92]) rfl ?_ ?_, ?_⟩
  · intro b hb
    simp only [List.mem_cons, List.not_mem_nil, or_false] at hb
    rcases hb with rfl | rfl | rfl | rfl | rfl | rfl | rfl | rfl | rfl | rfl | rfl | rfl | rfl | rfl <;> (rw [acc_eq]; rfl)
  · rw [acc_eq]; rfl
  · show t.opn.length + (3 + pRk t) < t.opn.length + (4 + pRk t)
    omega
theorem nx_secondSpan (z : Nat) (t : St) : Nx ⟨.secondSpan, z, t⟩ := by
  refine ⟨101, find_at (l := [34, 93, 125, 58, 48, 128, 160, 144, 114, 117]) (r := [97, 108, 115, 100, 99, 92]) rfl ?_ ?_, ?_⟩
  · intro b hb
    simp only [List.mem_cons, List.not_mem_nil, or_false] at hb
    rcases hb with rfl | rfl | rfl | rfl | rfl | rfl | rfl | rfl | rfl | rfl <;> (rw [acc_eq]; rfl)
  · rw [acc_eq]; rfl
  · show t.opn.length + (2 + pRk t) < t.opn.length + (3 + pRk t)
    omega
theorem nx_piece (z : Nat) (t : St) : Nx ⟨.piece, z, t⟩ := by
  cases hk : t.isKey with
  | true =>
    refine ⟨34, find_at (l := []) (r := [93, 125, 58, 48, 128, 160, 144, 114, 117, 101, 97, 108, 115, 100, 99, 92]) rfl (fun b hb => by simp at hb) ?_, ?_⟩
    · rw [acc_eq]; simp [stepB, pieceB, unquotedB, hk, go]
    · simp [mu, rankB, takeB, stepB, pieceB, unquotedB, hk, go, pRk]
  | false =>
    refine ⟨34, find_at (l := []) (r := [93, 125, 58, 48, 128, 160, 144, 114, 117, 101, 97, 108, 115, 100, 99, 92]) rfl (fun b hb => by simp at hb) ?_, ?_⟩
    · rw [acc_eq]; simp [stepB, pieceB, unquotedB, hk, mayE]
    · simp [mu, rankB, takeB, stepB, pieceB, unquotedB, hk, mayE, pRk]
theorem nx_digitsLeft (z : Nat) (t : St) (h : 0 < t.left) : Nx ⟨.digitsLeft, z, t⟩ := by
  refine ⟨48, find_at (l := [34, 93, 125, 58]) (r := [128, 160, 144, 114, 117, 101, 97, 108, 115, 100, 99, 92]) rfl ?_ ?_, ?_⟩
  · intro b hb
    simp only [List.mem_cons, List.not_mem_nil, or_false] at hb
    rcases hb with rfl | rfl | rfl | rfl <;> (rw [acc_eq]; rfl)
  · rw [acc_eq]
    simp only [stepB, digitsLeftB, show hexB 48 = true from rfl, if_true]
    split
    · rfl
    · split <;> rfl
  · have e : takeB 48 ⟨.digitsLeft, z, t⟩ = if 0 < t.left - 1 then ⟨.digitsLeft, z + 1, { t with ends := false, left := t.left - 1 }⟩ else if t.half then ⟨.secondHalf, z + 1, { t with ends := false, left := t.left - 1 }⟩ else ⟨.piece, z + 1, { t with ends := false, left := t.left - 1 }⟩ := by
      by_cases q : 0 < t.left - 1
      · simp only [takeB, stepB, digitsLeftB, show hexB 48 = true from rfl, if_true, go, if_pos q]
      · have q2 : ¬ 1 < t.left := by omega
        cases hh : t.half <;> simp [takeB, stepB, digitsLeftB, show hexB 48 = true from rfl, go, q2, hh]
    rw [e]
    split
    · simp only [mu, rankB, pRk]; (repeat' split) <;> omega
    · split
      · rename_i hh; simp only [mu, rankB, pRk, hh, if_true]; (repeat' split) <;> omega
      · rename_i hh; simp only [mu, rankB, pRk]; rw [if_neg hh]; (repeat' split) <;> omega
theorem nx_letter (z : Nat) (t : St) (hw : t.word ≠ []) (hl : ∀ c ∈ t.word, c = 117 ∨ c = 108 ∨ c = 114 ∨ c = 101 ∨ c = 97 ∨ c = 115) : Nx ⟨.letter, z, t⟩ := by
  obtain ⟨c, l, hcl⟩ : ∃ c l, t.word = c :: l := by cases hq : t.word with | nil => exact absurd hq hw | cons c l => exact ⟨c, l, rfl⟩
  have ha : ∀ b, accB ⟨.letter, z, t⟩ b = decide (b = c) := fun b => by
    rw [acc_eq]
    simp only [stepB, letterB, hcl, List.headD_cons, List.tail_cons]
    split
    · rename_i e; subst e; split <;> simp [mayE, go]
    · rename_i e; simp [no, e]
  have hf : mayL.find? (accB ⟨.letter, z, t⟩) = some c := by
    rw [show accB ⟨.letter, z, t⟩ = fun b => decide (b = c) from funext ha]
    rcases hl c (by rw [hcl]; simp) with rfl | rfl | rfl | rfl | rfl | rfl <;> decide
  refine ⟨c, hf, ?_⟩
  have e : takeB c ⟨.letter, z, t⟩ = if l = [] then ⟨.behind, z + 1, { t with ends := true, word := l }⟩ else ⟨.letter, z + 1, { t with ends := false, word := l }⟩ := by
    simp only [takeB, stepB, letterB, hcl, List.headD_cons, List.tail_cons, if_true]
    by_cases hl : l = []
    · simp [hl, mayE]
    · simp [hl, go]
  rw [e]
  split
  · simp [mu, rankB, hcl]
  · simp [mu, rankB, hcl]
theorem nx_encoding (z : Nat) (t : St) (hb : uByt t.begun) (h0 : t.begun ≠ []) (h3 : t.begun.length ≤ 3) (hr : t.begun.length < rch t.begun) : Nx ⟨.encoding, z, t⟩ := by
  have ha : ∀ b, accB ⟨.encoding, z, t⟩ b = decide (rch (t.begun ++ [b]) ≠ 0) := fun b => by
    rw [acc_eq]
    simp only [stepB, encodingB]
    split
    · rename_i e; simp [no, e]
    · rename_i e; split <;> simp [go, e]
  have hx : (mayL.find? (accB ⟨.encoding, z, t⟩)).isSome = true := by
    rw [List.find?_isSome]
    rcases rch_next hb h0 h3 hr with e | e | e
    · exact ⟨128, by simp [mayL], by rw [ha]; simpa using e⟩
    · exact ⟨160, by simp [mayL], by rw [ha]; simpa using e⟩
    · exact ⟨144, by simp [mayL], by rw [ha]; simpa using e⟩
  obtain ⟨c, hc⟩ := Option.isSome_iff_exists.1 hx
  refine ⟨c, hc, ?_⟩
  have hac := List.find?_some hc
  rw [ha] at hac
  have hne : rch (t.begun ++ [c]) ≠ 0 := of_decide_eq_true hac
  have e : takeB c ⟨.encoding, z, t⟩ = if t.begun.length + 1 < rch (t.begun ++ [c]) then ⟨.encoding, z + 1, { t with ends := false, begun := t.begun ++ [c] }⟩ else ⟨.piece, z + 1, { t with ends := false, begun := [] }⟩ := by
    by_cases q : t.begun.length + 1 < rch (t.begun ++ [c]) <;> simp [takeB, stepB, encodingB, hne, q, go]
  rw [e]
  split
  · simp [mu, rankB, pRk]; omega
  · simp [mu, rankB, pRk]; omega
theorem nx_shut (m : Md) (z : Nat) (t : St) (hm : m = .behind ∨ m = .wholePart ∨ m = .digits ∨ m = .fraction ∨ m = .power) (ho : t.opn ≠ []) (hk : ∀ c ∈ t.opn, c = 93 ∨ c = 125) : Nx ⟨m, z, t⟩ := by
  have hs : ∀ b, b = 34 ∨ b = 93 ∨ b = 125 → stepB m b { t with ends := false } = behindB b { t with ends := false } := fun b hb => by
    rcases hm with rfl | rfl | rfl | rfl | rfl <;> rcases hb with rfl | rfl | rfl <;> simp [stepB, wholeB, decimalsB, digitsB, fractionB, powerB, digB]
  obtain ⟨l, c, hlc⟩ : ∃ l c, t.opn = l ++ [c] := ⟨t.opn.dropLast, t.opn.getLast ho, (List.dropLast_concat_getLast ho).symm⟩
  have hc := hk c (by rw [hlc]; simp)
  have hr : rankB m t = 0 := by rcases hm with rfl | rfl | rfl | rfl | rfl <;> rfl
  have hsc : behindB c { t with ends := false } = (some .behind, { t with ends := true, opn := l }) := by
    rcases hc with rfl | rfl <;> simp [behindB, blankB, hlc, closed, mayE]
  have e : takeB c ⟨m, z, t⟩ = ⟨.behind, z + 1, { t with ends := true, opn := l }⟩ := by
    simp only [takeB]
    rw [hs c (by omega), hsc]
  have hno : ∀ b, (b = 34 ∨ b = 93 ∨ b = 125) → b ≠ c → accB ⟨m, z, t⟩ b = false := fun b hb hn => by
    rw [acc_eq, hs b hb]
    rcases hb with rfl | rfl | rfl <;> simp [behindB, blankB, hlc, no, hn]
  refine ⟨c, ?_, ?_⟩
  · have h1 : accB ⟨m, z, t⟩ c = true := by rw [acc_eq, hs c (by omega), hsc]; rfl
    rcases hc with rfl | rfl
    · exact find_at (l := [34]) (r := [125, 58, 48, 128, 160, 144, 114, 117, 101, 97, 108, 115, 100, 99, 92]) rfl (fun b hb => by simp at hb; subst hb; exact hno 34 (by omega) (by omega)) h1
    · refine find_at (l := [34, 93]) (r := [58, 48, 128, 160, 144, 114, 117, 101, 97, 108, 115, 100, 99, 92]) rfl (fun b hb => ?_) h1
      simp at hb
      rcases hb with rfl | rfl
      · exact hno 34 (by omega) (by omega)
      · exact hno 93 (by omega) (by omega)
  · rw [e]
    show l.length + 0 < t.opn.length + rankB m t
    rw [hr, hlc]
    simp
theorem next_ok {s : Sc} (h : Liv s) (hc : codeC s ≠ 0) : Nx s := by
  obtain ⟨m, z, t⟩ := s
  have hg := h.good
  have hn := h.nv
  have hb := h.bad
  simp only at hg hn hb
  have hend : (m = .behind ∨ m = .wholePart ∨ m = .digits ∨ m = .fraction ∨ m = .power) → Nx ⟨m, z, t⟩ := fun hm => by
    refine nx_shut m z t hm (fun ho => hc ?_) hg.core.brk
    simp [codeC, wholeB', hb, hn.en hm, ho]
  cases m with
  | value => exact nx_value z t
  | firstElement => exact nx_firstElement z t
  | firstKey => exact nx_firstKey z t
  | key => exact nx_key z t
  | colon => exact nx_colon z t
  | minus => exact nx_minus z t
  | point => exact nx_point z t
  | exponent => exact nx_exponent z t
  | sign => exact nx_sign z t
  | backslash => exact nx_backslash z t
  | unit => exact nx_unit z t
  | behindD => exact nx_behindD z t
  | secondHalf => exact nx_secondHalf z t
  | secondU => exact nx_secondU z t
  | secondD => exact nx_secondD z t
  | secondSpan => exact nx_secondSpan z t
  | piece => exact nx_piece z t
  | behind => exact hend (by simp)
  | wholePart => exact hend (by simp)
  | digits => exact hend (by simp)
  | fraction => exact hend (by simp)
  | power => exact hend (by simp)
  | letter => exact nx_letter z t (hg.wd rfl) hn.core.wl
  | encoding => exact nx_encoding z t hg.core.bb (hn.ec rfl).1 hg.core.bg (hn.ec rfl).2
  | digitsLeft => exact nx_digitsLeft z t (hg.lt rfl)

end Go.Proofs.YtefmlajndillbaaDoor
