/- JsonscanDeep: plain: brackets opened and closed -/
import Derived.Test.YtefmlajndillbaaDoorJsV
namespace Go.Proofs.YtefmlajndillbaaDoor
open Go.RowKit
set_option linter.unusedVariables false

/-- what opens, what closes -/
def opT (k : Bool) : List Int := if k then [91] else [123, 34, 107, 34, 58]
def shC (k : Bool) : Int := if k then 93 else 125
def opens : List Bool → List Int
  | [] => []
  | k :: l => opT k ++ opens l
theorem opens_append (l m : List Bool) : opens (l ++ m) = opens l ++ opens m := by
  induction l with
  | nil => rfl
  | cons k l ih => simp only [List.cons_append, opens, ih, List.append_assoc]
def shuts (l : List Bool) : List Int := (l.map shC).reverse
theorem shuts_snoc (l : List Bool) (k : Bool) : shuts (l ++ [k]) = shC k :: shuts l := by simp [shuts]
theorem opens_byt (l : List Bool) : uByt (opens l) := by
  induction l with
  | nil => exact nofun
  | cons k l ih =>
    intro x hx
    rcases List.mem_append.1 hx with h | h
    · cases k <;> simp [opT] at h <;> omega
    · exact ih x h
theorem shuts_byt (l : List Bool) : uByt (shuts l) := by
  intro x hx
  simp only [shuts, List.mem_reverse, List.mem_map] at hx
  obtain ⟨k, _, rfl⟩ := hx
  cases k <;> simp [shC]
theorem opens_len (l : List Bool) : (opens l).length ≤ 5 * l.length := by
  induction l with
  | nil => simp [opens]
  | cons k l ih => cases k <;> simp [opens, opT] <;> omega
theorem shuts_len (l : List Bool) : (shuts l).length = l.length := by simp [shuts]
/-- the scanner behind opening brackets -/
structure Opn (l : List Bool) (s : Sc) : Prop where
  bad : s.st.bad = 0
  opn : s.st.opn = l.map shC
  size : s.size = (opens l).length
  last : (l = [] ∧ s.md = .value) ∨ (∃ m, l = m ++ [false] ∧ s.md = .value) ∨ (∃ m, l = m ++ [true] ∧ s.md = .firstElement)
theorem opn_md {l : List Bool} {s : Sc} (h : Opn l s) : s.md = .value ∨ s.md = .firstElement := by
  rcases h.last with ⟨_, e⟩ | ⟨_, _, e⟩ | ⟨_, _, e⟩ <;> simp [e]
theorem opn_nil : Opn [] sc0 := ⟨rfl, rfl, rfl, Or.inl ⟨rfl, rfl⟩⟩
theorem take_sq {s : Sc} (hm : s.md = .value ∨ s.md = .firstElement) (hl : s.st.opn.length ≠ 128) :
    takeB 91 s = ⟨.firstElement, s.size + 1, { s.st with ends := false, opn := s.st.opn ++ [93] }⟩ := by
  obtain ⟨md, sz, st⟩ := s
  simp only at hm hl ⊢
  rcases hm with rfl | rfl <;> simp [takeB, stepB, firstElementB, valueB, blankB, opened, hl]
theorem take_sq_full {s : Sc} (hm : s.md = .value ∨ s.md = .firstElement) (hl : s.st.opn.length = 128) :
    takeB 91 s = ⟨s.md, s.size, { s.st with ends := false, bad := 5 }⟩ := by
  obtain ⟨md, sz, st⟩ := s
  simp only at hm hl ⊢
  rcases hm with rfl | rfl <;> simp [takeB, stepB, firstElementB, valueB, blankB, opened, hl]
theorem take_cu {s : Sc} (hm : s.md = .value ∨ s.md = .firstElement) (hl : s.st.opn.length ≠ 128) :
    takeB 123 s = ⟨.firstKey, s.size + 1, { s.st with ends := false, opn := s.st.opn ++ [125] }⟩ := by
  obtain ⟨md, sz, st⟩ := s
  simp only at hm hl ⊢
  rcases hm with rfl | rfl <;> simp [takeB, stepB, firstElementB, valueB, blankB, opened, hl]
theorem take_cu_full {s : Sc} (hm : s.md = .value ∨ s.md = .firstElement) (hl : s.st.opn.length = 128) :
    takeB 123 s = ⟨s.md, s.size, { s.st with ends := false, bad := 5 }⟩ := by
  obtain ⟨md, sz, st⟩ := s
  simp only at hm hl ⊢
  rcases hm with rfl | rfl <;> simp [takeB, stepB, firstElementB, valueB, blankB, opened, hl]
theorem key_text (z : Nat) (t : St) (hb : t.bad = 0) : writeB [34, 107, 34, 58] ⟨.firstKey, z, t⟩ = ⟨.value, z + 4, { t with ends := false, isKey := true }⟩ := by
  simp [writeB, takeB, stepB, firstKeyB, keyB, quotedB, go, blankB, pieceB, unquotedB, colonB, hb]
theorem opn_snoc {l : List Bool} {s : Sc} (h : Opn l s) (k : Bool) (hl : l.length < 128) : Opn (l ++ [k]) (writeB (opT k) s) := by
  have hln : s.st.opn.length ≠ 128 := by rw [h.opn]; simp; omega
  have hs := h.size
  cases k with
  | true =>
    have e : writeB (opT true) s = ⟨.firstElement, s.size + 1, { s.st with ends := false, opn := s.st.opn ++ [93] }⟩ := by
      show writeB [91] s = _
      rw [writeB, if_pos h.bad, take_sq (opn_md h) hln]; rfl
    rw [e]
    exact ⟨h.bad, by simp [h.opn, shC], by simp [opens_append, opens, opT, hs], Or.inr (Or.inr ⟨l, rfl, rfl⟩)⟩
  | false =>
    have e : writeB (opT false) s = ⟨.value, s.size + 1 + 4, { s.st with ends := false, opn := s.st.opn ++ [125], isKey := true }⟩ := by
      show writeB [123, 34, 107, 34, 58] s = _
      rw [writeB, if_pos h.bad, take_cu (opn_md h) hln]
      exact key_text (s.size + 1) { s.st with ends := false, opn := s.st.opn ++ [125] } h.bad
    rw [e]
    exact ⟨h.bad, by simp [h.opn, shC], by simp [opens_append, opens, opT, hs], Or.inr (Or.inl ⟨l, rfl, rfl⟩)⟩
theorem snoc_rec {p : List Bool → Prop} (h0 : p []) (h1 : ∀ l k, p l → p (l ++ [k])) (l : List Bool) : p l := by
  have hr : ∀ m : List Bool, p m.reverse := fun m => by
    induction m with
    | nil => exact h0
    | cons k m ih => rw [List.reverse_cons]; exact h1 _ _ ih
  have h := hr l.reverse
  rwa [List.reverse_reverse] at h
theorem opn_all (l : List Bool) : l.length ≤ 128 → Opn l (writeB (opens l) sc0) := by
  refine snoc_rec (p := fun l => l.length ≤ 128 → Opn l (writeB (opens l) sc0)) (fun _ => opn_nil) (fun l k ih hl => ?_) l
  · have h := ih (by simp at hl; omega)
    rw [opens_append, writeB_append]
    have e : opens [k] = opT k := by simp [opens]
    rw [e]
    exact opn_snoc h k (by simp at hl; omega)
/-- one more than may be -/
theorem opn_over {l : List Bool} (hl : l.length = 128) (k : Bool) (r : List Int) :
    (writeB (opens l ++ (opT k ++ r)) sc0).st.bad = 5 ∧ (writeB (opens l ++ (opT k ++ r)) sc0).size = (opens l).length ∧ (writeB (opens l ++ (opT k ++ r)) sc0).st.opn.length = 128 := by
  have h := opn_all l (by omega)
  have hln : (writeB (opens l) sc0).st.opn.length = 128 := by rw [h.opn]; simp [hl]
  have e : writeB (opens l ++ (opT k ++ r)) sc0 = ⟨(writeB (opens l) sc0).md, (writeB (opens l) sc0).size, { (writeB (opens l) sc0).st with ends := false, bad := 5 }⟩ := by
    rw [writeB_append]
    cases k with
    | true =>
      show writeB (91 :: r) _ = _
      rw [writeB, if_pos h.bad, take_sq_full (opn_md h) hln, writeB_bad (by simp)]
    | false =>
      show writeB (123 :: ([34, 107, 34, 58] ++ r)) _ = _
      rw [writeB, if_pos h.bad, take_cu_full (opn_md h) hln, writeB_bad (by simp)]
  rw [e]
  exact ⟨rfl, h.size, hln⟩
/-- closing brackets -/
theorem take_shut {s : Sc} {m : List Int} {c : Int} (hm : s.md = .behind ∨ s.md = .wholePart) (ho : s.st.opn = m ++ [c]) (hc : c = 93 ∨ c = 125) :
    takeB c s = ⟨.behind, s.size + 1, { s.st with ends := true, opn := m }⟩ := by
  obtain ⟨md, sz, st⟩ := s
  simp only at hm ho ⊢
  rcases hc with rfl | rfl <;> rcases hm with rfl | rfl <;> simp [takeB, stepB, wholeB, decimalsB, behindB, blankB, closed, mayE, ho]
theorem shut_all (l : List Bool) : ∀ s : Sc, s.st.bad = 0 → s.st.opn = l.map shC → s.md = .behind ∨ s.md = .wholePart → s.st.ends = true →
    (writeB (shuts l) s).st.bad = 0 ∧ (writeB (shuts l) s).st.opn = [] ∧ (writeB (shuts l) s).size = s.size + l.length ∧ (writeB (shuts l) s).st.ends = true := by
  refine snoc_rec (p := fun l => ∀ s : Sc, s.st.bad = 0 → s.st.opn = l.map shC → s.md = .behind ∨ s.md = .wholePart → s.st.ends = true →
    (writeB (shuts l) s).st.bad = 0 ∧ (writeB (shuts l) s).st.opn = [] ∧ (writeB (shuts l) s).size = s.size + l.length ∧ (writeB (shuts l) s).st.ends = true) ?_ (fun l k ih => ?_) l
  · intro s h1 h2 h3 h4; exact ⟨h1, by simpa [shuts, writeB] using h2, by simp [shuts, writeB], by simpa [shuts, writeB] using h4⟩
  · intro s h1 h2 h3 h4
    rw [shuts_snoc, writeB, if_pos h1, take_shut (m := l.map shC) h3 (by rw [h2]; simp) (by cases k <;> simp [shC])]
    obtain ⟨a, b, c, d⟩ := ih ⟨.behind, s.size + 1, { s.st with ends := true, opn := l.map shC }⟩ h1 rfl (Or.inl rfl) rfl
    exact ⟨a, b, by rw [c]; simp; omega, d⟩
theorem take_0 {s : Sc} (hm : s.md = .value ∨ s.md = .firstElement) : takeB 48 s = ⟨.wholePart, s.size + 1, { s.st with ends := true }⟩ := by
  obtain ⟨md, sz, st⟩ := s
  simp only at hm ⊢
  rcases hm with rfl | rfl <;> simp [takeB, stepB, firstElementB, valueB, numberB, minusB, blankB, digB, mayE]
theorem take_fe {s : Sc} {m : List Int} (hm : s.md = .firstElement) (ho : s.st.opn = m ++ [93]) : takeB 93 s = ⟨.behind, s.size + 1, { s.st with ends := true, opn := m }⟩ := by
  obtain ⟨md, sz, st⟩ := s
  simp only at hm ho ⊢
  subst hm
  simp [takeB, stepB, firstElementB, blankB, closed, mayE, ho]
/-- what stands within -/
def withinT (l : List Bool) (v : Bool) : List Int := if v || l.isEmpty || !(l.getLastD true) then [48] else []
theorem deep_all (l : List Bool) (v : Bool) (hl : l.length ≤ 128) :
    let S := writeB (opens l ++ withinT l v ++ shuts l) sc0
    codeC S = 0 ∧ S.size = (opens l).length + (withinT l v).length + (shuts l).length ∧ S.st.opn.length = 0 := by
  have h := opn_all l hl
  have fin : ∀ X : Sc, X.st.bad = 0 → X.st.opn = [] → X.st.ends = true → codeC X = 0 ∧ X.st.opn.length = 0 := fun X a b c => ⟨by simp [codeC, wholeB', a, b, c], by simp [b]⟩
  simp only
  rw [List.append_assoc, writeB_append, writeB_append]
  by_cases hw : (v || l.isEmpty || !(l.getLastD true)) = true
  · have e : withinT l v = [48] := by simp only [withinT, hw, if_true]
    rw [e]
    have e2 : writeB [48] (writeB (opens l) sc0) = ⟨.wholePart, (writeB (opens l) sc0).size + 1, { (writeB (opens l) sc0).st with ends := true }⟩ := by
      rw [writeB, if_pos h.bad, take_0 (opn_md h)]; rfl
    rw [e2]
    obtain ⟨a, b, c, d⟩ := shut_all l ⟨.wholePart, (writeB (opens l) sc0).size + 1, { (writeB (opens l) sc0).st with ends := true }⟩ h.bad h.opn (Or.inr rfl) rfl
    refine ⟨(fin _ a b d).1, ?_, (fin _ a b d).2⟩
    rw [c, shuts_len]
    simp [h.size]
  · have e : withinT l v = [] := by simp only [withinT, hw, if_false, Bool.false_eq_true]
    have hw2 : v = false ∧ l ≠ [] ∧ l.getLastD true = true := by
      simp at hw; exact ⟨hw.1.1, hw.1.2, by simpa using hw.2⟩
    rw [e]
    obtain ⟨m, hm⟩ : ∃ m, l = m ++ [true] := by
      rcases h.last with ⟨e, _⟩ | ⟨m, e, _⟩ | ⟨m, e, _⟩
      · exact absurd e hw2.2.1
      · exfalso; rw [e] at hw2; simp at hw2
      · exact ⟨m, e⟩
    have hmd : (writeB (opens l) sc0).md = .firstElement := by
      rcases h.last with ⟨e, _⟩ | ⟨m', e, _⟩ | ⟨m', e, g⟩
      · exact absurd e hw2.2.1
      · exfalso; rw [e] at hw2; simp at hw2
      · exact g
    have ho := h.opn
    have hsz := h.size
    have hb := h.bad
    generalize writeB (opens l) sc0 = X at hmd ho hsz hb
    have e3 : writeB [] X = X := rfl
    rw [e3]
    have e4 : shuts l = 93 :: shuts m := by rw [hm, shuts_snoc]; rfl
    have ho' : X.st.opn = m.map shC ++ [93] := by rw [ho, hm]; simp [shC]
    rw [e4, writeB, if_pos hb, take_fe hmd ho']
    obtain ⟨a, b, c, d⟩ := shut_all m ⟨.behind, X.size + 1, { X.st with ends := true, opn := m.map shC }⟩ hb rfl (Or.inl rfl) rfl
    refine ⟨(fin _ a b d).1, ?_, (fin _ a b d).2⟩
    rw [c]
    simp [hsz, shuts_len]
    omega

end Go.Proofs.YtefmlajndillbaaDoor
