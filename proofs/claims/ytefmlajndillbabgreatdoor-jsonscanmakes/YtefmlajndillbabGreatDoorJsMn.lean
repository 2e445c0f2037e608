/- JsonscanMakes, plain: lists and maps of texts -/
import Derived.Test.YtefmlajndillbabGreatDoorJsMm
namespace Go.Proofs.YtefmlajndillbabGreatDoor
open Go.RowKit
set_option linter.unusedVariables false

/-- where a value may end, and nothing of an encoding is left -/
def EvR : Rs → Prop
  | (some m, u) => (u.ends = true → endM m = true) ∧ (m ≠ .encoding → u.begun = [])
  | (none, _) => True
structure Ev0 (t : St) : Prop where
  en : t.ends = false
  bg : t.begun = []
theorem ev_ite {c : Prop} [Decidable c] {x y : Rs} (h1 : EvR x) (h2 : EvR y) : EvR (if c then x else y) := by
  split
  · exact h1
  · exact h2
theorem ev_no {t : St} : EvR (no t) := trivial
theorem ev_go {t : St} (h : Ev0 t) (m : Md) : EvR (go m t) := ⟨fun e => (by rw [h.en] at e; cases e), fun _ => h.bg⟩
theorem ev_may {t : St} (h : Ev0 t) (m : Md) (hm : endM m = true) : EvR (mayE m t) := ⟨fun _ => hm, fun _ => h.bg⟩
theorem ev_closed {t : St} (h : Ev0 t) : EvR (closed t) := ⟨fun _ => rfl, fun _ => h.bg⟩
theorem ev_opened {t : St} (h : Ev0 t) (c : Int) (m : Md) : EvR (opened c m t) := by
  unfold opened
  split
  · trivial
  · exact ⟨fun e => (by rw [show ({ t with opn := t.opn ++ [c] } : St).ends = t.ends from rfl, h.en] at e; cases e), fun _ => h.bg⟩
theorem ev_quoted {t : St} (h : Ev0 t) (k : Bool) : EvR (quotedB k t) := ev_go (t := { t with isKey := k }) ⟨h.en, h.bg⟩ _
theorem ev_word {t : St} (h : Ev0 t) (l : List Int) : EvR (go .letter { t with word := l }) := ev_go (t := { t with word := l }) ⟨h.en, h.bg⟩ _
theorem ev_more {t : St} (h : Ev0 t) (n : Int) (k : Bool) : EvR (moreB n k t) := ev_go (t := { t with left := n, half := k }) ⟨h.en, h.bg⟩ _
theorem ev_encoding {t : St} (h : t.ends = false) (b : Int) : EvR (encodingB b t) := by
  unfold encodingB
  refine ev_ite ev_no (ev_ite ?_ ?_)
  · exact ⟨fun e => (by rw [show ({ t with begun := t.begun ++ [b] } : St).ends = t.ends from rfl, h] at e; cases e), fun e => absurd rfl e⟩
  · exact ⟨fun e => (by rw [show ({ t with begun := [] } : St).ends = t.ends from rfl, h] at e; cases e), fun _ => rfl⟩
theorem ev_behind {t : St} (h : Ev0 t) (b : Int) : EvR (behindB b t) := by
  unfold behindB
  exact ev_ite (ev_may h _ rfl) (ev_ite (ev_no) (ev_ite (ev_closed h) (ev_ite (ev_ite (ev_go h _) (ev_go h _)) (ev_no))))
theorem ev_minus {t : St} (h : Ev0 t) (b : Int) : EvR (minusB b t) := by
  unfold minusB
  exact ev_ite (ev_may h _ rfl) (ev_ite (ev_may h _ rfl) (ev_no))
theorem ev_number {t : St} (h : Ev0 t) (b : Int) : EvR (numberB b t) := by
  unfold numberB
  exact ev_ite (ev_go h _) (ev_minus h b)
theorem ev_named {t : St} (h : Ev0 t) (b : Int) : EvR (namedB b t) := by
  unfold namedB
  exact ev_ite (ev_word h _) (ev_ite (ev_word h _) (ev_ite (ev_word h _) (ev_no)))
theorem ev_value {t : St} (h : Ev0 t) (b : Int) : EvR (valueB b t) := by
  unfold valueB
  exact ev_ite (ev_go h _) (ev_ite (ev_quoted h _) (ev_ite (ev_opened h _ _) (ev_ite (ev_opened h _ _) (ev_ite (ev_number h b) (ev_ite (ev_number h b) (ev_named h b))))))
theorem ev_letter {t : St} (h : Ev0 t) (b : Int) : EvR (letterB b t) := by
  unfold letterB
  exact ev_ite (ev_ite ⟨fun _ => rfl, fun _ => h.bg⟩ (ev_word h _)) ev_no
theorem ev_firstElement {t : St} (h : Ev0 t) (b : Int) : EvR (firstElementB b t) := by
  unfold firstElementB
  exact ev_ite (ev_go h _) (ev_ite (ev_closed h) (ev_value h b))
theorem ev_key {t : St} (h : Ev0 t) (b : Int) : EvR (keyB b t) := by
  unfold keyB
  exact ev_ite (ev_go h _) (ev_ite (ev_quoted h _) (ev_no))
theorem ev_firstKey {t : St} (h : Ev0 t) (b : Int) : EvR (firstKeyB b t) := by
  unfold firstKeyB
  exact ev_ite (ev_go h _) (ev_ite (ev_closed h) (ev_key h b))
theorem ev_colon {t : St} (h : Ev0 t) (b : Int) : EvR (colonB b t) := by
  unfold colonB
  exact ev_ite (ev_go h _) (ev_ite (ev_go h _) (ev_no))
theorem ev_decimals {t : St} (h : Ev0 t) (b : Int) : EvR (decimalsB b t) := by
  unfold decimalsB
  exact ev_ite (ev_go h _) (ev_behind h b)
theorem ev_whole {t : St} (h : Ev0 t) (b : Int) : EvR (wholeB b t) := by
  unfold wholeB
  exact ev_ite (ev_go h _) (ev_decimals h b)
theorem ev_digits {t : St} (h : Ev0 t) (b : Int) : EvR (digitsB b t) := by
  unfold digitsB
  exact ev_ite (ev_may h _ rfl) (ev_whole h b)
theorem ev_point {t : St} (h : Ev0 t) (b : Int) : EvR (pointB b t) := by
  unfold pointB
  exact ev_ite (ev_may h _ rfl) (ev_no)
theorem ev_fraction {t : St} (h : Ev0 t) (b : Int) : EvR (fractionB b t) := by
  unfold fractionB
  exact ev_ite (ev_may h _ rfl) (ev_decimals h b)
theorem ev_sign {t : St} (h : Ev0 t) (b : Int) : EvR (signB b t) := by
  unfold signB
  exact ev_ite (ev_may h _ rfl) (ev_no)
theorem ev_exponent {t : St} (h : Ev0 t) (b : Int) : EvR (exponentB b t) := by
  unfold exponentB
  exact ev_ite (ev_go h _) (ev_sign h b)
theorem ev_power {t : St} (h : Ev0 t) (b : Int) : EvR (powerB b t) := by
  unfold powerB
  exact ev_ite (ev_may h _ rfl) (ev_behind h b)
theorem ev_unquoted {t : St} (h : Ev0 t) : EvR (unquotedB t) := by
  unfold unquotedB
  exact ev_ite (ev_go h _) (ev_may h _ rfl)
theorem ev_piece {t : St} (h : Ev0 t) (b : Int) : EvR (pieceB b t) := by
  unfold pieceB
  exact ev_ite (ev_unquoted h) (ev_ite (ev_go h _) (ev_ite (ev_no) (ev_ite (ev_go h _) (ev_encoding h.en b))))
theorem ev_backslash {t : St} (h : Ev0 t) (b : Int) : EvR (backslashB b t) := by
  unfold backslashB
  exact ev_ite (ev_go h _) (ev_ite (ev_go h _) (ev_no))
theorem ev_unit {t : St} (h : Ev0 t) (b : Int) : EvR (unitB b t) := by
  unfold unitB
  exact ev_ite (ev_go h _) (ev_ite (ev_more h _ _) (ev_no))
theorem ev_behindD {t : St} (h : Ev0 t) (b : Int) : EvR (behindDB b t) := by
  unfold behindDB
  exact ev_ite (ev_more h _ _) (ev_ite (ev_more h _ _) (ev_no))
theorem ev_digitsLeft {t : St} (h : Ev0 t) (b : Int) : EvR (digitsLeftB b t) := by
  have h1 : Ev0 { t with left := t.left - 1 } := ⟨h.en, h.bg⟩
  unfold digitsLeftB
  exact ev_ite (ev_ite (ev_go h1 _) (ev_ite (ev_go h1 _) (ev_go h1 _))) ev_no
theorem ev_secondHalf {t : St} (h : Ev0 t) (b : Int) : EvR (secondHalfB b t) := by
  unfold secondHalfB
  exact ev_ite (ev_go h _) (ev_no)
theorem ev_secondU {t : St} (h : Ev0 t) (b : Int) : EvR (secondUB b t) := by
  unfold secondUB
  exact ev_ite (ev_go h _) (ev_no)
theorem ev_secondD {t : St} (h : Ev0 t) (b : Int) : EvR (secondDB b t) := by
  unfold secondDB
  exact ev_ite (ev_go h _) (ev_no)
theorem ev_secondSpan {t : St} (h : Ev0 t) (b : Int) : EvR (secondSpanB b t) := by
  unfold secondSpanB
  exact ev_ite (ev_more h _ _) (ev_no)
theorem ev_step {m : Md} {t : St} (he : t.ends = false) (hb : m ≠ .encoding → t.begun = []) (b : Int) : EvR (stepB m b t) := by
  cases m with
  | encoding => exact ev_encoding he b
  | value => exact ev_value ⟨he, hb nofun⟩ b
  | firstElement => exact ev_firstElement ⟨he, hb nofun⟩ b
  | firstKey => exact ev_firstKey ⟨he, hb nofun⟩ b
  | key => exact ev_key ⟨he, hb nofun⟩ b
  | colon => exact ev_colon ⟨he, hb nofun⟩ b
  | behind => exact ev_behind ⟨he, hb nofun⟩ b
  | letter => exact ev_letter ⟨he, hb nofun⟩ b
  | minus => exact ev_minus ⟨he, hb nofun⟩ b
  | wholePart => exact ev_whole ⟨he, hb nofun⟩ b
  | digits => exact ev_digits ⟨he, hb nofun⟩ b
  | point => exact ev_point ⟨he, hb nofun⟩ b
  | fraction => exact ev_fraction ⟨he, hb nofun⟩ b
  | exponent => exact ev_exponent ⟨he, hb nofun⟩ b
  | sign => exact ev_sign ⟨he, hb nofun⟩ b
  | power => exact ev_power ⟨he, hb nofun⟩ b
  | piece => exact ev_piece ⟨he, hb nofun⟩ b
  | backslash => exact ev_backslash ⟨he, hb nofun⟩ b
  | unit => exact ev_unit ⟨he, hb nofun⟩ b
  | behindD => exact ev_behindD ⟨he, hb nofun⟩ b
  | digitsLeft => exact ev_digitsLeft ⟨he, hb nofun⟩ b
  | secondHalf => exact ev_secondHalf ⟨he, hb nofun⟩ b
  | secondU => exact ev_secondU ⟨he, hb nofun⟩ b
  | secondD => exact ev_secondD ⟨he, hb nofun⟩ b
  | secondSpan => exact ev_secondSpan ⟨he, hb nofun⟩ b
def EvS (s : Sc) : Prop := s.st.bad = 0 → (s.st.ends = true → endM s.md = true) ∧ (s.md ≠ .encoding → s.st.begun = [])
theorem ev_take {s : Sc} (h : EvS s) (h0 : s.st.bad = 0) (b : Int) : EvS (takeB b s) := by
  have he := ev_step (t := { s.st with ends := false }) (m := s.md) rfl (h h0).2 b
  unfold takeB
  revert he
  rcases stepB s.md b { s.st with ends := false } with ⟨_ | m, u⟩
  · intro _ hb
    exfalso
    simp only at hb
    split at hb
    · cases hb
    · rename_i q; exact q hb
  · intro he _; exact he
theorem ev_write (l : List Int) : ∀ s, EvS s → EvS (writeB l s) := by
  induction l with
  | nil => exact fun s h => h
  | cons b l ih =>
    intro s h
    rw [writeB]
    split
    · rename_i q; exact ih _ (ev_take h q b)
    · exact h
theorem ev_text (l : List Int) : EvS (writeB l sc0) := ev_write l sc0 (fun _ => ⟨nofun, fun _ => rfl⟩)
/-- a JSON text -/
def Txt (l : List Int) : Prop := codeC (writeB l sc0) = 0
theorem txt_end {l : List Int} (h : Txt l) : (writeB l sc0).st.bad = 0 ∧ (writeB l sc0).st.ends = true ∧ (writeB l sc0).st.opn = [] ∧ endM (writeB l sc0).md = true ∧ (writeB l sc0).st.begun = [] := by
  have hv := ev_text l
  unfold Txt codeC at h
  split at h
  · rename_i hb
    split at h
    · rename_i hw
      simp [wholeB'] at hw
      have := (hv hb).1 hw.1
      refine ⟨hb, hw.1, hw.2, this, (hv hb).2 (fun e => ?_)⟩
      rw [e] at this; cases this
    · cases h
  · rename_i q; exact absurd h q
/-- before a value or a key, within brackets p -/
structure InS (m : Md) (p : List Int) (s : Sc) : Prop where
  md : s.md = m
  bad : s.st.bad = 0
  opn : s.st.opn = p
  bg : s.st.begun = []
  en : s.st.ends = false
/-- behind a value, within brackets p -/
structure EndS (p : List Int) (s : Sc) : Prop where
  md : endM s.md = true
  bad : s.st.bad = 0
  opn : s.st.opn = p
  bg : s.st.begun = []
theorem in_ct {p : List Int} {s : Sc} (h : InS .value p s) : Ct p sc0 s := by
  obtain ⟨m, z, t⟩ := s
  obtain ⟨rfl, h2, h3, h4, h5⟩ := h
  exact ⟨rfl, ⟨⟨by simp at h3; simp [sc0, h3], h5, h4, rfl, h2⟩, nofun, nofun, nofun⟩, good0.ok rfl⟩
theorem end_of {p l : List Int} {s : Sc} (h : Txt l) (hc : Ct p (writeB l sc0) s) : EndS p s := by
  have ht := txt_end h
  exact ⟨by rw [hc.md]; exact ht.2.2.2.1, hc.r.core.bd.2, by rw [hc.r.core.opn, ht.2.2.1]; simp, by rw [hc.r.core.bg]; exact ht.2.2.2.2⟩
theorem seg_value {p l : List Int} {s : Sc} (hl : uByt l) (h : InS .value p s) (ht : Txt l) : (writeB l s).st.bad = 5 ∨ (EndS p (writeB l s) ∧ (writeB l s).size = s.size + l.length) := by
  rcases ct_run p l hl sc0 s (in_ct h) (txt_end ht).1 with q | ⟨q, z⟩
  · exact Or.inl q
  · exact Or.inr ⟨end_of ht q, z⟩
theorem value_93 (t : St) : valueB 93 t = (none, t) := rfl
/-- behind an opening square bracket: the same, but that it may close -/
theorem first_same {p : List Int} {s : Sc} (h : InS .firstElement p s) {b : Int} (hb : blankB b = false) (h93 : b ≠ 93) : takeB b s = takeB b { s with md := .value } ∨ ((takeB b s).st = (takeB b { s with md := .value }).st ∧ (takeB b s).size = (takeB b { s with md := .value }).size ∧ (takeB b { s with md := .value }).st.bad ≠ 0) := by
  obtain ⟨m, z, t⟩ := s
  obtain ⟨rfl, h2, h3, h4, h5⟩ := h
  have e : stepB .firstElement b { t with ends := false } = stepB .value b { t with ends := false } := by
    show firstElementB b _ = valueB b _
    unfold firstElementB
    rw [if_neg (by simp [hb]), if_neg h93]
  unfold takeB
  simp only
  rw [e]
  rcases stepB .value b { t with ends := false } with ⟨_ | m, u⟩
  · refine Or.inr ⟨rfl, rfl, ?_⟩
    simp only
    split
    · omega
    · assumption
  · exact Or.inl rfl
theorem first_run (p l : List Int) (hl : uByt l) : ∀ (s0 s : Sc), Ct p s0 { s with md := .value } → s0.md = .value → InS .firstElement p s → (writeB l s0).st.bad = 0 →
    (writeB l s).st.bad = 5 ∨ ((writeB l s).size = s.size + l.length ∧ ((writeB l s0).md = .value ∨ Ct p (writeB l s0) (writeB l s))) := by
  induction l with
  | nil => intro s0 s _ hm _ _; exact Or.inr ⟨by simp [writeB], Or.inl hm⟩
  | cons b l ih =>
    intro s0 s hc hm hi hb
    have hl' : uByt l := fun x hx => hl x (by simp [hx])
    have b0 := (hl b (by simp)).1
    have b1 := (hl b (by simp)).2
    have e0 : writeB (b :: l) s0 = writeB l (takeB b s0) := by rw [writeB, if_pos hc.r.core.bd.1]
    have e1 : writeB (b :: l) s = writeB l (takeB b s) := by rw [writeB, if_pos hi.bad]
    rw [e0] at hb ⊢
    rw [e1]
    have hbt := bad_take hb
    cases hq : blankB b with
    | true =>
      have k0 : takeB b s0 = ⟨.value, s0.size + 1, { s0.st with ends := false }⟩ := by
        obtain ⟨m, z, t⟩ := s0
        simp only at hm
        subst hm
        simp [takeB, stepB, valueB, hq, go]
      have k1 : takeB b s = ⟨.firstElement, s.size + 1, { s.st with ends := false }⟩ := by
        obtain ⟨m, z, t⟩ := s
        obtain ⟨rfl, _⟩ := hi
        simp [takeB, stepB, firstElementB, hq, go]
      rw [k0] at hb ⊢
      rw [k1]
      have hcr := hc.r.core
      have hg := hc.gd
      rw [hm] at hg
      rcases ih hl' ⟨.value, s0.size + 1, { s0.st with ends := false }⟩ ⟨.firstElement, s.size + 1, { s.st with ends := false }⟩ ⟨rfl, ⟨⟨hcr.opn, rfl, hcr.bg, hcr.bd⟩, nofun, nofun, nofun⟩, good_false hg⟩ rfl ⟨rfl, hi.bad, hi.opn, hi.bg, rfl⟩ hb with r | ⟨r, r2⟩
      · exact Or.inl r
      · exact Or.inr ⟨by rw [r]; simp; omega, r2⟩
    | false =>
      have h93 : b ≠ 93 := fun e => by
        subst e
        have : takeB 93 s0 = ⟨s0.md, s0.size, { s0.st with ends := false, bad := if s0.st.bad = 0 then 3 else s0.st.bad }⟩ := by
          obtain ⟨m, z, t⟩ := s0
          simp only at hm
          subst hm
          rfl
        rw [this] at hbt
        simp only at hbt
        split at hbt
        · cases hbt
        · rename_i q; exact q hbt
      rcases ct_take hc b b0 b1 hbt with ⟨k1, _⟩ | ⟨k1, k2, _⟩
      · left
        rcases first_same hi hq h93 with e | ⟨e, _, _⟩
        · rw [e, writeB_bad (by omega)]; exact k1
        · have : (takeB b s).st.bad = 5 := by rw [e]; exact k1
          rw [writeB_bad (by omega)]; exact this
      · rcases first_same hi hq h93 with e | ⟨_, _, e⟩
        · rw [e]
          rcases ct_run p l hl' _ _ k1 hb with r | ⟨r1, r2⟩
          · exact Or.inl r
          · exact Or.inr ⟨by rw [r2, k2]; simp; omega, Or.inr r1⟩
        · exact absurd k1.r.core.bd.2 e
theorem in_first {p : List Int} {s : Sc} (h : InS .firstElement p s) : Ct p sc0 { s with md := .value } := in_ct ⟨rfl, h.bad, h.opn, h.bg, h.en⟩
theorem seg_first {p l : List Int} {s : Sc} (hl : uByt l) (h : InS .firstElement p s) (ht : Txt l) : (writeB l s).st.bad = 5 ∨ (EndS p (writeB l s) ∧ (writeB l s).size = s.size + l.length) := by
  rcases first_run p l hl sc0 s (in_first h) rfl h (txt_end ht).1 with q | ⟨z, q | q⟩
  · exact Or.inl q
  · have := (txt_end ht).2.2.2.1
    rw [q] at this; cases this
  · exact Or.inr ⟨end_of ht q, z⟩
theorem end_step {p : List Int} {s : Sc} (h : EndS p s) {b : Int} (hb : b = 44 ∨ b = 93 ∨ b = 125) : stepB s.md b { s.st with ends := false } = behindB b { s.st with ends := false } := by
  have hm := h.md
  revert hm
  cases s.md <;> intro hm <;> first
    | (cases hm; done)
    | (rcases hb with rfl | rfl | rfl <;> simp [stepB, wholeB, decimalsB, digitsB, fractionB, powerB, digB])
theorem comma_list {s : Sc} (h : EndS [93] s) : InS .value [93] (takeB 44 s) ∧ (takeB 44 s).size = s.size + 1 := by
  have e : takeB 44 s = ⟨.value, s.size + 1, { s.st with ends := false }⟩ := by
    unfold takeB; rw [end_step h (by omega)]; simp [behindB, blankB, h.opn, go]
  rw [e]; exact ⟨⟨rfl, h.bad, h.opn, h.bg, rfl⟩, rfl⟩
theorem comma_map {s : Sc} (h : EndS [125] s) : InS .key [125] (takeB 44 s) ∧ (takeB 44 s).size = s.size + 1 := by
  have e : takeB 44 s = ⟨.key, s.size + 1, { s.st with ends := false }⟩ := by
    unfold takeB; rw [end_step h (by omega)]; simp [behindB, blankB, h.opn, go]
  rw [e]; exact ⟨⟨rfl, h.bad, h.opn, h.bg, rfl⟩, rfl⟩
theorem close_of {c : Int} (hc : c = 93 ∨ c = 125) {s : Sc} (h : EndS [c] s) : BhS (takeB c s) := by
  have e : takeB c s = ⟨.behind, s.size + 1, { s.st with ends := true, opn := [] }⟩ := by
    unfold takeB; rw [end_step h (by omega)]
    rcases hc with rfl | rfl <;> simp [behindB, blankB, h.opn, closed, mayE]
  rw [e]; exact ⟨rfl, h.bad, rfl, rfl⟩

end Go.Proofs.YtefmlajndillbabGreatDoor
