/- JsonscanMakes, plain: a text behind a bracket goes as by itself -/
import Derived.Test.YtefmlajndillbabGreatDoorJsLn
namespace Go.Proofs.YtefmlajndillbabGreatDoor
open Go.RowKit
set_option linter.unusedVariables false

def endM (m : Md) : Bool := m = .behind ∨ m = .wholePart ∨ m = .digits ∨ m = .fraction ∨ m = .power
def litM (m : Md) : Bool := m = .piece ∨ m = .encoding ∨ m = .backslash ∨ m = .unit ∨ m = .behindD ∨ m = .digitsLeft ∨ m = .secondHalf ∨ m = .secondU ∨ m = .secondD ∨ m = .secondSpan
/-- two states alike but for what is open around -/
structure Rc (p : List Int) (t t' : St) : Prop where
  opn : t'.opn = p ++ t.opn
  en : t'.ends = t.ends
  bg : t'.begun = t.begun
  bd : t.bad = 0 ∧ t'.bad = 0
structure R (p : List Int) (m : Md) (t t' : St) : Prop where
  core : Rc p t t'
  wd : m = .letter → t'.word = t.word
  ky : litM m = true → t'.isKey = t.isKey
  lf : m = .digitsLeft → t'.left = t.left ∧ t'.half = t.half
def RS (p : List Int) (n : Nat) (r r' : Rs) : Prop :=
  r.1 = none ∨ (∃ m u u', r = (some m, u) ∧ u.opn.length = n + 1 ∧ p.length + n = 128 ∧ r' = (none, u') ∧ u'.bad = 5) ∨ (∃ m u u', r = (some m, u) ∧ r' = (some m, u') ∧ R p m u u' ∧ (u.opn.length = n + 1 → p.length + n ≠ 128))
theorem ne_succ {n : Nat} {q : Prop} (h : n = n + 1) : q := absurd h (by omega)
theorem rs_ite {p : List Int} {c : Prop} [Decidable c] {n : Nat} {x y x' y' : Rs} (h1 : RS p n x x') (h2 : RS p n y y') : RS p n (if c then x else y) (if c then x' else y') := by
  split
  · exact h1
  · exact h2
theorem rs_no {p : List Int} {n : Nat} {t : St} {r' : Rs} : RS p n (no t) r' := Or.inl rfl
theorem rs_go {p : List Int} {t t' : St} (h : Rc p t t') (m : Md) (h1 : m ≠ .letter) (h2 : litM m = false) (h3 : m ≠ .digitsLeft) : RS p t.opn.length (go m t) (go m t') :=
  Or.inr (Or.inr ⟨m, t, t', rfl, rfl, ⟨h, fun e => absurd e h1, fun e => (by rw [h2] at e; cases e), fun e => absurd e h3⟩, ne_succ⟩)
theorem rs_goL {p : List Int} {t t' : St} (h : Rc p t t') (m : Md) (h1 : m ≠ .letter) (hk : t'.isKey = t.isKey) (h3 : m ≠ .digitsLeft) : RS p t.opn.length (go m t) (go m t') :=
  Or.inr (Or.inr ⟨m, t, t', rfl, rfl, ⟨h, fun e => absurd e h1, fun _ => hk, fun e => absurd e h3⟩, ne_succ⟩)
theorem rs_may {p : List Int} {t t' : St} (h : Rc p t t') (m : Md) (h1 : m ≠ .letter) (h2 : litM m = false) (h3 : m ≠ .digitsLeft) : RS p t.opn.length (mayE m t) (mayE m t') :=
  Or.inr (Or.inr ⟨m, _, _, rfl, rfl, ⟨⟨h.opn, rfl, h.bg, h.bd⟩, fun e => absurd e h1, fun e => (by rw [h2] at e; cases e), fun e => absurd e h3⟩, ne_succ⟩)
theorem rs_closed {p : List Int} {t t' : St} (h : Rc p t t') (ho : t.opn ≠ []) : RS p t.opn.length (closed t) (closed t') := by
  refine Or.inr (Or.inr ⟨.behind, _, _, rfl, rfl, ⟨⟨?_, rfl, h.bg, h.bd⟩, nofun, nofun, nofun⟩, fun e => absurd e (by show ¬ t.opn.dropLast.length = _; simp <;> omega)⟩)
  show t'.opn.dropLast = p ++ t.opn.dropLast
  rw [h.opn, List.dropLast_append_of_ne_nil ho]
theorem rs_opened {p : List Int} {t t' : St} (h : Rc p t t') (c : Int) (m : Md) (h1 : m ≠ .letter) (h2 : litM m = false) (h3 : m ≠ .digitsLeft) : RS p t.opn.length (opened c m t) (opened c m t') := by
  have hl : t'.opn.length = p.length + t.opn.length := by rw [h.opn]; simp
  unfold opened
  by_cases q2 : t.opn.length = 128
  · rw [if_pos q2]; exact Or.inl rfl
  · rw [if_neg q2]
    by_cases q : t'.opn.length = 128
    · rw [if_pos q]; exact Or.inr (Or.inl ⟨_, _, _, rfl, by simp, by omega, rfl, rfl⟩)
    · rw [if_neg q]
      exact Or.inr (Or.inr ⟨m, _, _, rfl, rfl, ⟨⟨by show t'.opn ++ [c] = p ++ (t.opn ++ [c]); rw [h.opn, List.append_assoc], h.en, h.bg, h.bd⟩, fun e => absurd e h1, fun e => (by rw [h2] at e; cases e), fun e => absurd e h3⟩, fun _ => by omega⟩)
theorem rs_quoted {p : List Int} {t t' : St} (h : Rc p t t') (k : Bool) : RS p t.opn.length (quotedB k t) (quotedB k t') :=
  Or.inr (Or.inr ⟨.piece, _, _, rfl, rfl, ⟨⟨h.opn, h.en, h.bg, h.bd⟩, nofun, fun _ => rfl, nofun⟩, ne_succ⟩)
theorem rs_word {p : List Int} {t t' : St} (h : Rc p t t') (l : List Int) : RS p t.opn.length (go .letter { t with word := l }) (go .letter { t' with word := l }) :=
  Or.inr (Or.inr ⟨.letter, _, _, rfl, rfl, ⟨⟨h.opn, h.en, h.bg, h.bd⟩, fun _ => rfl, nofun, nofun⟩, ne_succ⟩)
theorem rs_more {p : List Int} {t t' : St} (h : Rc p t t') (hk : t'.isKey = t.isKey) (n : Int) (k : Bool) : RS p t.opn.length (moreB n k t) (moreB n k t') :=
  Or.inr (Or.inr ⟨.digitsLeft, _, _, rfl, rfl, ⟨⟨h.opn, h.en, h.bg, h.bd⟩, nofun, fun _ => hk, fun _ => ⟨rfl, rfl⟩⟩, ne_succ⟩)
theorem rs_behind {p : List Int} {t t' : St} (h : Rc p t t') (b : Int) : RS p t.opn.length (behindB b t) (behindB b t') := by
  unfold behindB
  by_cases hb : blankB b = true
  · rw [if_pos hb, if_pos hb]; exact rs_may h _ nofun rfl nofun
  · rw [if_neg hb, if_neg hb]
    by_cases ho : t.opn = []
    · rw [if_pos ho]; exact rs_no
    · have ho' : t'.opn ≠ [] := by rw [h.opn]; simp [ho]
      have hl : t'.opn.getLastD 0 = t.opn.getLastD 0 := by
        rw [h.opn]
        obtain ⟨l, c, e⟩ : ∃ l c, t.opn = l ++ [c] := ⟨t.opn.dropLast, t.opn.getLast ho, (List.dropLast_concat_getLast ho).symm⟩
        rw [e]
        simp
      rw [if_neg ho, if_neg ho', hl]
      exact rs_ite (rs_closed h ho) (rs_ite (rs_ite (rs_go h _ nofun rfl nofun) (rs_go h _ nofun rfl nofun)) rs_no)
theorem rs_minus {p : List Int} {t t' : St} (h : Rc p t t') (b : Int) : RS p t.opn.length (minusB b t) (minusB b t') := by
  unfold minusB
  exact rs_ite (rs_may h _ nofun rfl nofun) (rs_ite (rs_may h _ nofun rfl nofun) (rs_no))
theorem rs_number {p : List Int} {t t' : St} (h : Rc p t t') (b : Int) : RS p t.opn.length (numberB b t) (numberB b t') := by
  unfold numberB
  exact rs_ite (rs_go h _ nofun rfl nofun) (rs_minus h b)
theorem rs_named {p : List Int} {t t' : St} (h : Rc p t t') (b : Int) : RS p t.opn.length (namedB b t) (namedB b t') := by
  unfold namedB
  exact rs_ite (rs_word h _) (rs_ite (rs_word h _) (rs_ite (rs_word h _) (rs_no)))
theorem rs_value {p : List Int} {t t' : St} (h : Rc p t t') (b : Int) : RS p t.opn.length (valueB b t) (valueB b t') := by
  unfold valueB
  exact rs_ite (rs_go h _ nofun rfl nofun) (rs_ite (rs_quoted h _) (rs_ite (rs_opened h _ _ nofun rfl nofun) (rs_ite (rs_opened h _ _ nofun rfl nofun) (rs_ite (rs_number h b) (rs_ite (rs_number h b) (rs_named h b))))))
theorem rs_letter {p : List Int} {t t' : St} (h : Rc p t t') (hw : t'.word = t.word) (b : Int) : RS p t.opn.length (letterB b t) (letterB b t') := by
  unfold letterB
  rw [hw]
  refine rs_ite (rs_ite ?_ (rs_word h _)) rs_no
  exact Or.inr (Or.inr ⟨.behind, _, _, rfl, rfl, ⟨⟨h.opn, rfl, h.bg, h.bd⟩, nofun, nofun, nofun⟩, ne_succ⟩)
theorem rs_firstElement {p : List Int} {t t' : St} (h : Rc p t t') (ho : t.opn ≠ []) (b : Int) : RS p t.opn.length (firstElementB b t) (firstElementB b t') := by
  unfold firstElementB
  exact rs_ite (rs_go h _ nofun rfl nofun) (rs_ite (rs_closed h ho) (rs_value h b))
theorem rs_key {p : List Int} {t t' : St} (h : Rc p t t') (b : Int) : RS p t.opn.length (keyB b t) (keyB b t') := by
  unfold keyB
  exact rs_ite (rs_go h _ nofun rfl nofun) (rs_ite (rs_quoted h _) (rs_no))
theorem rs_firstKey {p : List Int} {t t' : St} (h : Rc p t t') (ho : t.opn ≠ []) (b : Int) : RS p t.opn.length (firstKeyB b t) (firstKeyB b t') := by
  unfold firstKeyB
  exact rs_ite (rs_go h _ nofun rfl nofun) (rs_ite (rs_closed h ho) (rs_key h b))
theorem rs_colon {p : List Int} {t t' : St} (h : Rc p t t') (b : Int) : RS p t.opn.length (colonB b t) (colonB b t') := by
  unfold colonB
  exact rs_ite (rs_go h _ nofun rfl nofun) (rs_ite (rs_go h _ nofun rfl nofun) (rs_no))
theorem rs_decimals {p : List Int} {t t' : St} (h : Rc p t t') (b : Int) : RS p t.opn.length (decimalsB b t) (decimalsB b t') := by
  unfold decimalsB
  exact rs_ite (rs_go h _ nofun rfl nofun) (rs_behind h b)
theorem rs_whole {p : List Int} {t t' : St} (h : Rc p t t') (b : Int) : RS p t.opn.length (wholeB b t) (wholeB b t') := by
  unfold wholeB
  exact rs_ite (rs_go h _ nofun rfl nofun) (rs_decimals h b)
theorem rs_digits {p : List Int} {t t' : St} (h : Rc p t t') (b : Int) : RS p t.opn.length (digitsB b t) (digitsB b t') := by
  unfold digitsB
  exact rs_ite (rs_may h _ nofun rfl nofun) (rs_whole h b)
theorem rs_point {p : List Int} {t t' : St} (h : Rc p t t') (b : Int) : RS p t.opn.length (pointB b t) (pointB b t') := by
  unfold pointB
  exact rs_ite (rs_may h _ nofun rfl nofun) (rs_no)
theorem rs_fraction {p : List Int} {t t' : St} (h : Rc p t t') (b : Int) : RS p t.opn.length (fractionB b t) (fractionB b t') := by
  unfold fractionB
  exact rs_ite (rs_may h _ nofun rfl nofun) (rs_decimals h b)
theorem rs_sign {p : List Int} {t t' : St} (h : Rc p t t') (b : Int) : RS p t.opn.length (signB b t) (signB b t') := by
  unfold signB
  exact rs_ite (rs_may h _ nofun rfl nofun) (rs_no)
theorem rs_exponent {p : List Int} {t t' : St} (h : Rc p t t') (b : Int) : RS p t.opn.length (exponentB b t) (exponentB b t') := by
  unfold exponentB
  exact rs_ite (rs_go h _ nofun rfl nofun) (rs_sign h b)
theorem rs_power {p : List Int} {t t' : St} (h : Rc p t t') (b : Int) : RS p t.opn.length (powerB b t) (powerB b t') := by
  unfold powerB
  exact rs_ite (rs_may h _ nofun rfl nofun) (rs_behind h b)
theorem rs_encoding {p : List Int} {t t' : St} (h : Rc p t t') (hk : t'.isKey = t.isKey) (b : Int) : RS p t.opn.length (encodingB b t) (encodingB b t') := by
  unfold encodingB
  rw [h.bg]
  refine rs_ite rs_no (rs_ite ?_ ?_)
  · exact Or.inr (Or.inr ⟨.encoding, _, _, rfl, rfl, ⟨⟨h.opn, h.en, rfl, h.bd⟩, nofun, fun _ => hk, nofun⟩, ne_succ⟩)
  · exact Or.inr (Or.inr ⟨.piece, _, _, rfl, rfl, ⟨⟨h.opn, h.en, rfl, h.bd⟩, nofun, fun _ => hk, nofun⟩, ne_succ⟩)
theorem rs_unquoted {p : List Int} {t t' : St} (h : Rc p t t') (hk : t'.isKey = t.isKey) : RS p t.opn.length (unquotedB t) (unquotedB t') := by
  unfold unquotedB
  rw [hk]
  exact rs_ite (rs_go h _ nofun rfl nofun) (rs_may h _ nofun rfl nofun)
theorem rs_piece {p : List Int} {t t' : St} (h : Rc p t t') (hk : t'.isKey = t.isKey) (b : Int) : RS p t.opn.length (pieceB b t) (pieceB b t') := by
  unfold pieceB
  exact rs_ite (rs_unquoted h hk) (rs_ite (rs_goL h _ nofun hk nofun) (rs_ite (rs_no) (rs_ite (rs_goL h _ nofun hk nofun) (rs_encoding h hk b))))
theorem rs_backslash {p : List Int} {t t' : St} (h : Rc p t t') (hk : t'.isKey = t.isKey) (b : Int) : RS p t.opn.length (backslashB b t) (backslashB b t') := by
  unfold backslashB
  exact rs_ite (rs_goL h _ nofun hk nofun) (rs_ite (rs_goL h _ nofun hk nofun) (rs_no))
theorem rs_unit {p : List Int} {t t' : St} (h : Rc p t t') (hk : t'.isKey = t.isKey) (b : Int) : RS p t.opn.length (unitB b t) (unitB b t') := by
  unfold unitB
  exact rs_ite (rs_goL h _ nofun hk nofun) (rs_ite (rs_more h hk _ _) (rs_no))
theorem rs_behindD {p : List Int} {t t' : St} (h : Rc p t t') (hk : t'.isKey = t.isKey) (b : Int) : RS p t.opn.length (behindDB b t) (behindDB b t') := by
  unfold behindDB
  exact rs_ite (rs_more h hk _ _) (rs_ite (rs_more h hk _ _) (rs_no))
theorem rs_digitsLeft {p : List Int} {t t' : St} (h : Rc p t t') (hk : t'.isKey = t.isKey) (hl : t'.left = t.left) (hh : t'.half = t.half) (b : Int) : RS p t.opn.length (digitsLeftB b t) (digitsLeftB b t') := by
  unfold digitsLeftB
  rw [hl, hh]
  refine rs_ite (rs_ite ?_ (rs_ite ?_ ?_)) rs_no
  · exact Or.inr (Or.inr ⟨.digitsLeft, _, _, rfl, rfl, ⟨⟨h.opn, h.en, h.bg, h.bd⟩, nofun, fun _ => hk, fun _ => ⟨rfl, rfl⟩⟩, ne_succ⟩)
  · exact Or.inr (Or.inr ⟨.secondHalf, _, _, rfl, rfl, ⟨⟨h.opn, h.en, h.bg, h.bd⟩, nofun, fun _ => hk, nofun⟩, ne_succ⟩)
  · exact Or.inr (Or.inr ⟨.piece, _, _, rfl, rfl, ⟨⟨h.opn, h.en, h.bg, h.bd⟩, nofun, fun _ => hk, nofun⟩, ne_succ⟩)
theorem rs_secondHalf {p : List Int} {t t' : St} (h : Rc p t t') (hk : t'.isKey = t.isKey) (b : Int) : RS p t.opn.length (secondHalfB b t) (secondHalfB b t') := by
  unfold secondHalfB
  exact rs_ite (rs_goL h _ nofun hk nofun) (rs_no)
theorem rs_secondU {p : List Int} {t t' : St} (h : Rc p t t') (hk : t'.isKey = t.isKey) (b : Int) : RS p t.opn.length (secondUB b t) (secondUB b t') := by
  unfold secondUB
  exact rs_ite (rs_goL h _ nofun hk nofun) (rs_no)
theorem rs_secondD {p : List Int} {t t' : St} (h : Rc p t t') (hk : t'.isKey = t.isKey) (b : Int) : RS p t.opn.length (secondDB b t) (secondDB b t') := by
  unfold secondDB
  exact rs_ite (rs_goL h _ nofun hk nofun) (rs_no)
theorem rs_secondSpan {p : List Int} {t t' : St} (h : Rc p t t') (hk : t'.isKey = t.isKey) (b : Int) : RS p t.opn.length (secondSpanB b t) (secondSpanB b t') := by
  unfold secondSpanB
  exact rs_ite (rs_more h hk _ _) (rs_no)
theorem rs_step {p : List Int} {m : Md} {t t' : St} (h : R p m t t') (hg : Good m t) (b : Int) : RS p t.opn.length (stepB m b t) (stepB m b t') := by
  have hc := h.core
  cases m with
  | value => exact rs_value hc b
  | key => exact rs_key hc b
  | colon => exact rs_colon hc b
  | behind => exact rs_behind hc b
  | minus => exact rs_minus hc b
  | wholePart => exact rs_whole hc b
  | digits => exact rs_digits hc b
  | point => exact rs_point hc b
  | fraction => exact rs_fraction hc b
  | exponent => exact rs_exponent hc b
  | sign => exact rs_sign hc b
  | power => exact rs_power hc b
  | firstElement => exact rs_firstElement hc (hg.op (Or.inl rfl)) b
  | firstKey => exact rs_firstKey hc (hg.op (Or.inr rfl)) b
  | letter => exact rs_letter hc (h.wd rfl) b
  | digitsLeft => exact rs_digitsLeft hc (h.ky rfl) (h.lf rfl).1 (h.lf rfl).2 b
  | piece => exact rs_piece hc (h.ky rfl) b
  | encoding => exact rs_encoding hc (h.ky rfl) b
  | backslash => exact rs_backslash hc (h.ky rfl) b
  | unit => exact rs_unit hc (h.ky rfl) b
  | behindD => exact rs_behindD hc (h.ky rfl) b
  | secondHalf => exact rs_secondHalf hc (h.ky rfl) b
  | secondU => exact rs_secondU hc (h.ky rfl) b
  | secondD => exact rs_secondD hc (h.ky rfl) b
  | secondSpan => exact rs_secondSpan hc (h.ky rfl) b
/-- two scanners alike -/
structure Ct (p : List Int) (s s' : Sc) : Prop where
  md : s'.md = s.md
  r : R p s.md s.st s'.st
  gd : Good s.md s.st
theorem rfalse {p : List Int} {m : Md} {t t' : St} (h : R p m t t') : R p m { t with ends := false } { t' with ends := false } := ⟨⟨h.core.opn, rfl, h.core.bg, h.core.bd⟩, h.wd, h.ky, h.lf⟩
theorem ct_take {p : List Int} {s s' : Sc} (h : Ct p s s') (b : Int) (b0 : 0 ≤ b) (b1 : b < 256) (ha : (takeB b s).st.bad = 0) :
    ((takeB b s').st.bad = 5 ∧ (takeB b s').size = s'.size ∧ (takeB b s).st.opn.length = s.st.opn.length + 1 ∧ p.length + s.st.opn.length = 128) ∨ (Ct p (takeB b s) (takeB b s') ∧ (takeB b s').size = s'.size + 1 ∧ ((takeB b s).st.opn.length = s.st.opn.length + 1 → p.length + s.st.opn.length ≠ 128)) := by
  have hr := rs_step (rfalse h.r) (good_false h.gd) b
  have hg := gr_step (good_false h.gd) b b0 b1
  have hmd := h.md
  have hb := h.r.core.bd.1
  unfold takeB at ha ⊢
  rw [hmd]
  revert hr hg ha
  rcases stepB s.md b { s.st with ends := false } with ⟨_ | m, u⟩
  · intro ha _ hg
    exfalso
    rcases hg with e | e
    · subst e; simp [hb] at ha
    · subst e; simp at ha
  · rcases stepB s.md b { s'.st with ends := false } with ⟨_ | m', u'⟩
    · intro _ hr _
      rcases hr with e | ⟨m1, v, v', e, e2, e3, e4, e5⟩ | ⟨_, _, _, _, e, _⟩
      · cases e
      · obtain ⟨_, rfl⟩ := Prod.mk.inj e
        obtain ⟨_, rfl⟩ := Prod.mk.inj e4
        exact Or.inl ⟨by simp [e5], rfl, e2, e3⟩
      · cases e
    · intro _ hr hg
      rcases hr with e | ⟨_, _, _, _, _, _, e, _⟩ | ⟨m1, v, v', e, e2, e3, e4⟩
      · cases e
      · cases e
      · obtain ⟨h1, rfl⟩ := Prod.mk.inj e
        obtain ⟨h2, rfl⟩ := Prod.mk.inj e2
        have h3 := Option.some.inj h1
        have h4 := Option.some.inj h2
        subst h3
        subst h4
        exact Or.inr ⟨⟨rfl, e3, hg.1⟩, rfl, e4⟩
theorem bad_take {b : Int} {s : Sc} {l : List Int} (h : (writeB l (takeB b s)).st.bad = 0) : (takeB b s).st.bad = 0 := by
  rcases Nat.eq_zero_or_pos (takeB b s).st.bad with g | g
  · exact g
  · rw [writeB_bad (by omega)] at h; exact h
theorem ct_run (p l : List Int) (hl : uByt l) : ∀ s s', Ct p s s' → (writeB l s).st.bad = 0 →
    ((writeB l s').st.bad = 5) ∨ (Ct p (writeB l s) (writeB l s') ∧ (writeB l s').size = s'.size + l.length) := by
  induction l with
  | nil => intro s s' h _; exact Or.inr ⟨h, by simp [writeB]⟩
  | cons b l ih =>
    intro s s' h hb
    have e : writeB (b :: l) s = writeB l (takeB b s) := by rw [writeB, if_pos h.r.core.bd.1]
    have e' : writeB (b :: l) s' = writeB l (takeB b s') := by rw [writeB, if_pos h.r.core.bd.2]
    rw [e] at hb ⊢
    rw [e']
    rcases ct_take h b (hl b (by simp)).1 (hl b (by simp)).2 (bad_take hb) with ⟨q, _⟩ | ⟨q, z, _⟩
    · left; rw [writeB_bad (by omega)]; exact q
    · rcases ih (fun x hx => hl x (by simp [hx])) _ _ q hb with r | ⟨r1, r2⟩
      · exact Or.inl r
      · exact Or.inr ⟨r1, by rw [r2, z]; simp; omega⟩
/-- the limit hangs on how many are open around alone -/
theorem ct_limit (p q l : List Int) (hpq : p.length = q.length) (hl : uByt l) : ∀ s s1 s2, Ct p s s1 → Ct q s s2 → (writeB l s).st.bad = 0 → (writeB l s2).st.bad = 5 → (writeB l s1).st.bad = 5 := by
  induction l with
  | nil => intro s s1 s2 _ h2 _ hb; exact absurd (show s2.st.bad = 5 from hb) (by have := h2.r.core.bd.2; omega)
  | cons b l ih =>
    intro s s1 s2 h1 h2 h0 hb
    have e : writeB (b :: l) s = writeB l (takeB b s) := by rw [writeB, if_pos h1.r.core.bd.1]
    have e1 : writeB (b :: l) s1 = writeB l (takeB b s1) := by rw [writeB, if_pos h1.r.core.bd.2]
    have e2 : writeB (b :: l) s2 = writeB l (takeB b s2) := by rw [writeB, if_pos h2.r.core.bd.2]
    rw [e] at h0
    rw [e2] at hb
    rw [e1]
    have b0 := (hl b (by simp)).1
    have b1 := (hl b (by simp)).2
    have hl' : uByt l := fun x hx => hl x (by simp [hx])
    rcases ct_take h1 b b0 b1 (bad_take h0) with ⟨k1, _⟩ | ⟨k1, _, k2⟩
    · rw [writeB_bad (by omega)]; exact k1
    · rcases ct_take h2 b b0 b1 (bad_take h0) with ⟨_, _, j1, j2⟩ | ⟨j1, _⟩
      · exact absurd (hpq ▸ j2) (k2 j1)
      · exact ih hl' _ _ _ k1 j1 h0 hb

end Go.Proofs.YtefmlajndillbabGreatDoor
