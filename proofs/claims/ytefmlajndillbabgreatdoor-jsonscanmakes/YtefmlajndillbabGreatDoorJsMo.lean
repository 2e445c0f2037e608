/- JsonscanMakes, plain: what lists and maps of texts are -/
import Derived.Test.YtefmlajndillbabGreatDoorJsLn
import Derived.Test.YtefmlajndillbabGreatDoorXTxt
namespace Go.Proofs.YtefmlajndillbabGreatDoor
open Go.RowKit
set_option linter.unusedVariables false

def endM (m : Md) : Bool := m = .behind ∨ m = .wholePart ∨ m = .digits ∨ m = .fraction ∨ m = .power
def litM (m : Md) : Bool := m = .piece ∨ m = .encoding ∨ m = .backslash ∨ m = .unit ∨ m = .behindD ∨ m = .digitsLeft ∨ m = .secondHalf ∨ m = .secondU ∨ m = .secondD ∨ m = .secondSpan
/-- two states alike but for what is open around -/
structure Rc (p : List Int) (t t' : St) : Prop where
  opn : t'.opn = p ++ t.opn
  en : t'.ends = t.ends
  bg : t'.begun = t.begun
  bd : t.bad = 0 ∧ t'.bad = 0
structure R (p : List Int) (m : Md) (t t' : St) : Prop where
  core : Rc p t t'
  wd : m = .letter → t'.word = t.word
  ky : litM m = true → t'.isKey = t.isKey
  lf : m = .digitsLeft → t'.left = t.left ∧ t'.half = t.half
def RS (p : List Int) (n : Nat) (r r' : Rs) : Prop :=
  r.1 = none ∨ (∃ m u u', r = (some m, u) ∧ u.opn.length = n + 1 ∧ p.length + n = 128 ∧ r' = (none, u') ∧ u'.bad = 5) ∨ (∃ m u u', r = (some m, u) ∧ r' = (some m, u') ∧ R p m u u' ∧ (u.opn.length = n + 1 → p.length + n ≠ 128))
theorem ne_succ {n : Nat} {q : Prop} (h : n = n + 1) : q := absurd h (by omega)
theorem rs_ite {p : List Int} {c : Prop} [Decidable c] {n : Nat} {x y x' y' : Rs} (h1 : RS p n x x') (h2 : RS p n y y') : RS p n (if c then x else y) (if c then x' else y') := by
  split
  · exact h1
  · exact h2
theorem rs_no {p : List Int} {n : Nat} {t : St} {r' : Rs} : RS p n (no t) r' := Or.inl rfl
theorem rs_go {p : List Int} {t t' : St} (h : Rc p t t') (m : Md) (h1 : m ≠ .letter) (h2 : litM m = false) (h3 : m ≠ .digitsLeft) : RS p t.opn.length (go m t) (go m t') :=
  Or.inr (Or.inr ⟨m, t, t', rfl, rfl, ⟨h, fun e => absurd e h1, fun e => (by rw [h2] at e; cases e), fun e => absurd e h3⟩, ne_succ⟩)
theorem rs_goL {p : List Int} {t t' : St} (h : Rc p t t') (m : Md) (h1 : m ≠ .letter) (hk : t'.isKey = t.isKey) (h3 : m ≠ .digitsLeft) : RS p t.opn.length (go m t) (go m t') :=
  Or.inr (Or.inr ⟨m, t, t', rfl, rfl, ⟨h, fun e => absurd e h1, fun _ => hk, fun e => absurd e h3⟩, ne_succ⟩)
theorem rs_may {p : List Int} {t t' : St} (h : Rc p t t') (m : Md) (h1 : m ≠ .letter) (h2 : litM m = false) (h3 : m ≠ .digitsLeft) : RS p t.opn.length (mayE m t) (mayE m t') :=
  Or.inr (Or.inr ⟨m, _, _, rfl, rfl, ⟨⟨h.opn, rfl, h.bg, h.bd⟩, fun e => absurd e h1, fun e => (by rw [h2] at e; cases e), fun e => absurd e h3⟩, ne_succ⟩)
theorem rs_closed {p : List Int} {t t' : St} (h : Rc p t t') (ho : t.opn ≠ []) : RS p t.opn.length (closed t) (closed t') := by
  refine Or.inr (Or.inr ⟨.behind, _, _, rfl, rfl, ⟨⟨?_, rfl, h.bg, h.bd⟩, nofun, nofun, nofun⟩, fun e => absurd e (by show ¬ t.opn.dropLast.length = _; simp <;> omega)⟩)
  show t'.opn.dropLast = p ++ t.opn.dropLast
  rw [h.opn, List.dropLast_append_of_ne_nil ho]
theorem rs_opened {p : List Int} {t t' : St} (h : Rc p t t') (c : Int) (m : Md) (h1 : m ≠ .letter) (h2 : litM m = false) (h3 : m ≠ .digitsLeft) : RS p t.opn.length (opened c m t) (opened c m t') := by
  have hl : t'.opn.length = p.length + t.opn.length := by rw [h.opn]; simp
  unfold opened
  by_cases q2 : t.opn.length = 128
  · rw [if_pos q2]; exact Or.inl rfl
  · rw [if_neg q2]
    by_cases q : t'.opn.length = 128
    · rw [if_pos q]; exact Or.inr (Or.inl ⟨_, _, _, rfl, by simp, by omega, rfl, rfl⟩)
    · rw [if_neg q]
      exact Or.inr (Or.inr ⟨m, _, _, rfl, rfl, ⟨⟨by show t'.opn ++ [c] = p ++ (t.opn ++ [c]); rw [h.opn, List.append_assoc], h.en, h.bg, h.bd⟩, fun e => absurd e h1, fun e => (by rw [h2] at e; cases e), fun e => absurd e h3⟩, fun _ => by omega⟩)
theorem rs_quoted {p : List Int} {t t' : St} (h : Rc p t t') (k : Bool) : RS p t.opn.length (quotedB k t) (quotedB k t') :=
  Or.inr (Or.inr ⟨.piece, _, _, rfl, rfl, ⟨⟨h.opn, h.en, h.bg, h.bd⟩, nofun, fun _ => rfl, nofun⟩, ne_succ⟩)
theorem rs_word {p : List Int} {t t' : St} (h : Rc p t t') (l : List Int) : RS p t.opn.length (go .letter { t with word := l }) (go .letter { t' with word := l }) :=
  Or.inr (Or.inr ⟨.letter, _, _, rfl, rfl, ⟨⟨h.opn, h.en, h.bg, h.bd⟩, fun _ => rfl, nofun, nofun⟩, ne_succ⟩)
theorem rs_more {p : List Int} {t t' : St} (h : Rc p t t') (hk : t'.isKey = t.isKey) (n : Int) (k : Bool) : RS p t.opn.length (moreB n k t) (moreB n k t') :=
  Or.inr (Or.inr ⟨.digitsLeft, _, _, rfl, rfl, ⟨⟨h.opn, h.en, h.bg, h.bd⟩, nofun, fun _ => hk, fun _ => ⟨rfl, rfl⟩⟩, ne_succ⟩)
theorem rs_behind {p : List Int} {t t' : St} (h : Rc p t t') (b : Int) : RS p t.opn.length (behindB b t) (behindB b t') := by
  unfold behindB
  by_cases hb : blankB b = true
  · rw [if_pos hb, if_pos hb]; exact rs_may h _ nofun rfl nofun
  · rw [if_neg hb, if_neg hb]
    by_cases ho : t.opn = []
    · rw [if_pos ho]; exact rs_no
    · have ho' : t'.opn ≠ [] := by rw [h.opn]; simp [ho]
      have hl : t'.opn.getLastD 0 = t.opn.getLastD 0 := by
        rw [h.opn]
        obtain ⟨l, c, e⟩ : ∃ l c, t.opn = l ++ [c] := ⟨t.opn.dropLast, t.opn.getLast ho, (List.dropLast_concat_getLast ho).symm⟩
        rw [e]
        simp
      rw [if_neg ho, if_neg ho', hl]
      exact rs_ite (rs_closed h ho) (rs_ite (rs_ite (rs_go h _ nofun rfl nofun) (rs_go h _ nofun rfl nofun)) rs_no)
theorem rs_minus {p : List Int} {t t' : St} (h : Rc p t t') (b : Int) : RS p t.opn.length (minusB b t) (minusB b t') := by
  unfold minusB
  exact rs_ite (rs_may h _ nofun rfl nofun) (rs_ite (rs_may h _ nofun rfl nofun) (rs_no))
theorem rs_number {p : List Int} {t t' : St} (h : Rc p t t') (b : Int) : RS p t.opn.length (numberB b t) (numberB b t') := by
  unfold numberB
  exact rs_ite (rs_go h _ nofun rfl nofun) (rs_minus h b)
theorem rs_named {p : List Int} {t t' : St} (h : Rc p t t') (b : Int) : RS p t.opn.length (namedB b t) (namedB b t') := by
  unfold namedB
  exact rs_ite (rs_word h _) (rs_ite (rs_word h _) (rs_ite (rs_word h _) (rs_no)))
theorem rs_value {p : List Int} {t t' : St} (h : Rc p t t') (b : Int) : RS p t.opn.length (valueB b t) (valueB b t') := by
  unfold valueB
  exact rs_ite (rs_go h _ nofun rfl nofun) (rs_ite (rs_quoted h _) (rs_ite (rs_opened h _ _ nofun rfl nofun) (rs_ite (rs_opened h _ _ nofun rfl nofun) (rs_ite (rs_number h b) (rs_ite (rs_number h b) (rs_named h b))))))
theorem rs_letter {p : List Int} {t t' : St} (h : Rc p t t') (hw : t'.word = t.word) (b : Int) : RS p t.opn.length (letterB b t) (letterB b t') := by
  unfold letterB
  rw [hw]
  refine rs_ite (rs_ite ?_ (rs_word h _)) rs_no
  exact Or.inr (Or.inr ⟨.behind, _, _, rfl, rfl, ⟨⟨h.opn, rfl, h.bg, h.bd⟩, nofun, nofun, nofun⟩, ne_succ⟩)
theorem rs_firstElement {p : List Int} {t t' : St} (h : Rc p t t') (ho : t.opn ≠ []) (b : Int) : RS p t.opn.length (firstElementB b t) (firstElementB b t') := by
  unfold firstElementB
  exact rs_ite (rs_go h _ nofun rfl nofun) (rs_ite (rs_closed h ho) (rs_value h b))
theorem rs_key {p : List Int} {t t' : St} (h : Rc p t t') (b : Int) : RS p t.opn.length (keyB b t) (keyB b t') := by
  unfold keyB
  exact rs_ite (rs_go h _ nofun rfl nofun) (rs_ite (rs_quoted h _) (rs_no))
theorem rs_firstKey {p : List Int} {t t' : St} (h : Rc p t t') (ho : t.opn ≠ []) (b : Int) : RS p t.opn.length (firstKeyB b t) (firstKeyB b t') := by
  unfold firstKeyB
  exact rs_ite (rs_go h _ nofun rfl nofun) (rs_ite (rs_closed h ho) (rs_key h b))
theorem rs_colon {p : List Int} {t t' : St} (h : Rc p t t') (b : Int) : RS p t.opn.length (colonB b t) (colonB b t') := by
  unfold colonB
  exact rs_ite (rs_go h _ nofun rfl nofun) (rs_ite (rs_go h _ nofun rfl nofun) (rs_no))
theorem rs_decimals {p : List Int} {t t' : St} (h : Rc p t t') (b : Int) : RS p t.opn.length (decimalsB b t) (decimalsB b t') := by
  unfold decimalsB
  exact rs_ite (rs_go h _ nofun rfl nofun) (rs_behind h b)
theorem rs_whole {p : List Int} {t t' : St} (h : Rc p t t') (b : Int) : RS p t.opn.length (wholeB b t) (wholeB b t') := by
  unfold wholeB
  exact rs_ite (rs_go h _ nofun rfl nofun) (rs_decimals h b)
theorem rs_digits {p : List Int} {t t' : St} (h : Rc p t t') (b : Int) : RS p t.opn.length (digitsB b t) (digitsB b t') := by
  unfold digitsB
  exact rs_ite (rs_may h _ nofun rfl nofun) (rs_whole h b)
theorem rs_point {p : List Int} {t t' : St} (h : Rc p t t') (b : Int) : RS p t.opn.length (pointB b t) (pointB b t') := by
  unfold pointB
  exact rs_ite (rs_may h _ nofun rfl nofun) (rs_no)
theorem rs_fraction {p : List Int} {t t' : St} (h : Rc p t t') (b : Int) : RS p t.opn.length (fractionB b t) (fractionB b t') := by
  unfold fractionB
  exact rs_ite (rs_may h _ nofun rfl nofun) (rs_decimals h b)
theorem rs_sign {p : List Int} {t t' : St} (h : Rc p t t') (b : Int) : RS p t.opn.length (signB b t) (signB b t') := by
  unfold signB
  exact rs_ite (rs_may h _ nofun rfl nofun) (rs_no)
theorem rs_exponent {p : List Int} {t t' : St} (h : Rc p t t') (b : Int) : RS p t.opn.length (exponentB b t) (exponentB b t') := by
  unfold exponentB
  exact rs_ite (rs_go h _ nofun rfl nofun) (rs_sign h b)
theorem rs_power {p : List Int} {t t' : St} (h : Rc p t t') (b : Int) : RS p t.opn.length (powerB b t) (powerB b t') := by
  unfold powerB
  exact rs_ite (rs_may h _ nofun rfl nofun) (rs_behind h b)
theorem rs_encoding {p : List Int} {t t' : St} (h : Rc p t t') (hk : t'.isKey = t.isKey) (b : Int) : RS p t.opn.length (encodingB b t) (encodingB b t') := by
  unfold encodingB
  rw [h.bg]
  refine rs_ite rs_no (rs_ite ?_ ?_)
  · exact Or.inr (Or.inr ⟨.encoding, _, _, rfl, rfl, ⟨⟨h.opn, h.en, rfl, h.bd⟩, nofun, fun _ => hk, nofun⟩, ne_succ⟩)
  · exact Or.inr (Or.inr ⟨.piece, _, _, rfl, rfl, ⟨⟨h.opn, h.en, rfl, h.bd⟩, nofun, fun _ => hk, nofun⟩, ne_succ⟩)
theorem rs_unquoted {p : List Int} {t t' : St} (h : Rc p t t') (hk : t'.isKey = t.isKey) : RS p t.opn.length (unquotedB t) (unquotedB t') := by
  unfold unquotedB
  rw [hk]
  exact rs_ite (rs_go h _ nofun rfl nofun) (rs_may h _ nofun rfl nofun)
theorem rs_piece {p : List Int} {t t' : St} (h : Rc p t t') (hk : t'.isKey = t.isKey) (b : Int) : RS p t.opn.length (pieceB b t) (pieceB b t') := by
  unfold pieceB
  exact rs_ite (rs_unquoted h hk) (rs_ite (rs_goL h _ nofun hk nofun) (rs_ite (rs_no) (rs_ite (rs_goL h _ nofun hk nofun) (rs_encoding h hk b))))
theorem rs_backslash {p : List Int} {t t' : St} (h : Rc p t t') (hk : t'.isKey = t.isKey) (b : Int) : RS p t.opn.length (backslashB b t) (backslashB b t') := by
  unfold backslashB
  exact rs_ite (rs_goL h _ nofun hk nofun) (rs_ite (rs_goL h _ nofun hk nofun) (rs_no))
theorem rs_unit {p : List Int} {t t' : St} (h : Rc p t t') (hk : t'.isKey = t.isKey) (b : Int) : RS p t.opn.length (unitB b t) (unitB b t') := by
  unfold unitB
  exact rs_ite (rs_goL h _ nofun hk nofun) (rs_ite (rs_more h hk _ _) (rs_no))
theorem rs_behindD {p : List Int} {t t' : St} (h : Rc p t t') (hk : t'.isKey = t.isKey) (b : Int) : RS p t.opn.length (behindDB b t) (behindDB b t') := by
  unfold behindDB
  exact rs_ite (rs_more h hk _ _) (rs_ite (rs_more h hk _ _) (rs_no))
theorem rs_digitsLeft {p : List Int} {t t' : St} (h : Rc p t t') (hk : t'.isKey = t.isKey) (hl : t'.left = t.left) (hh : t'.half = t.half) (b : Int) : RS p t.opn.length (digitsLeftB b t) (digitsLeftB b t') := by
  unfold digitsLeftB
  rw [hl, hh]
  refine rs_ite (rs_ite ?_ (rs_ite ?_ ?_)) rs_no
  · exact Or.inr (Or.inr ⟨.digitsLeft, _, _, rfl, rfl, ⟨⟨h.opn, h.en, h.bg, h.bd⟩, nofun, fun _ => hk, fun _ => ⟨rfl, rfl⟩⟩, ne_succ⟩)
  · exact Or.inr (Or.inr ⟨.secondHalf, _, _, rfl, rfl, ⟨⟨h.opn, h.en, h.bg, h.bd⟩, nofun, fun _ => hk, nofun⟩, ne_succ⟩)
  · exact Or.inr (Or.inr ⟨.piece, _, _, rfl, rfl, ⟨⟨h.opn, h.en, h.bg, h.bd⟩, nofun, fun _ => hk, nofun⟩, ne_succ⟩)
theorem rs_secondHalf {p : List Int} {t t' : St} (h : Rc p t t') (hk : t'.isKey = t.isKey) (b : Int) : RS p t.opn.length (secondHalfB b t) (secondHalfB b t') := by
  unfold secondHalfB
  exact rs_ite (rs_goL h _ nofun hk nofun) (rs_no)
theorem rs_secondU {p : List Int} {t t' : St} (h : Rc p t t') (hk : t'.isKey = t.isKey) (b : Int) : RS p t.opn.length (secondUB b t) (secondUB b t') := by
  unfold secondUB
  exact rs_ite (rs_goL h _ nofun hk nofun) (rs_no)
theorem rs_secondD {p : List Int} {t t' : St} (h : Rc p t t') (hk : t'.isKey = t.isKey) (b : Int) : RS p t.opn.length (secondDB b t) (secondDB b t') := by
  unfold secondDB
  exact rs_ite (rs_goL h _ nofun hk nofun) (rs_no)
theorem rs_secondSpan {p : List Int} {t t' : St} (h : Rc p t t') (hk : t'.isKey = t.isKey) (b : Int) : RS p t.opn.length (secondSpanB b t) (secondSpanB b t') := by
  unfold secondSpanB
  exact rs_ite (rs_more h hk _ _) (rs_no)
theorem rs_step {p : List Int} {m : Md} {t t' : St} (h : R p m t t') (hg : Good m t) (b : Int) : RS p t.opn.length (stepB m b t) (stepB m b t') := by
  have hc := h.core
  cases m with
  | value => exact rs_value hc b
  | key => exact rs_key hc b
  | colon => exact rs_colon hc b
  | behind => exact rs_behind hc b
  | minus => exact rs_minus hc b
  | wholePart => exact rs_whole hc b
  | digits => exact rs_digits hc b
  | point => exact rs_point hc b
  | fraction => exact rs_fraction hc b
  | exponent => exact rs_exponent hc b
  | sign => exact rs_sign hc b
  | power => exact rs_power hc b
  | firstElement => exact rs_firstElement hc (hg.op (Or.inl rfl)) b
  | firstKey => exact rs_firstKey hc (hg.op (Or.inr rfl)) b
  | letter => exact rs_letter hc (h.wd rfl) b
  | digitsLeft => exact rs_digitsLeft hc (h.ky rfl) (h.lf rfl).1 (h.lf rfl).2 b
  | piece => exact rs_piece hc (h.ky rfl) b
  | encoding => exact rs_encoding hc (h.ky rfl) b
  | backslash => exact rs_backslash hc (h.ky rfl) b
  | unit => exact rs_unit hc (h.ky rfl) b
  | behindD => exact rs_behindD hc (h.ky rfl) b
  | secondHalf => exact rs_secondHalf hc (h.ky rfl) b
  | secondU => exact rs_secondU hc (h.ky rfl) b
  | secondD => exact rs_secondD hc (h.ky rfl) b
  | secondSpan => exact rs_secondSpan hc (h.ky rfl) b
/-- two scanners alike -/
structure Ct (p : List Int) (s s' : Sc) : Prop where
  md : s'.md = s.md
  r : R p s.md s.st s'.st
  gd : Good s.md s.st
theorem rfalse {p : List Int} {m : Md} {t t' : St} (h : R p m t t') : R p m { t with ends := false } { t' with ends := false } := ⟨⟨h.core.opn, rfl, h.core.bg, h.core.bd⟩, h.wd, h.ky, h.lf⟩
theorem ct_take {p : List Int} {s s' : Sc} (h : Ct p s s') (b : Int) (b0 : 0 ≤ b) (b1 : b < 256) (ha : (takeB b s).st.bad = 0) :
    ((takeB b s').st.bad = 5 ∧ (takeB b s').size = s'.size ∧ (takeB b s).st.opn.length = s.st.opn.length + 1 ∧ p.length + s.st.opn.length = 128) ∨ (Ct p (takeB b s) (takeB b s') ∧ (takeB b s').size = s'.size + 1 ∧ ((takeB b s).st.opn.length = s.st.opn.length + 1 → p.length + s.st.opn.length ≠ 128)) := by
  have hr := rs_step (rfalse h.r) (good_false h.gd) b
  have hg := gr_step (good_false h.gd) b b0 b1
  have hmd := h.md
  have hb := h.r.core.bd.1
  unfold takeB at ha ⊢
  rw [hmd]
  revert hr hg ha
  rcases stepB s.md b { s.st with ends := false } with ⟨_ | m, u⟩
  · intro ha _ hg
    exfalso
    rcases hg with e | e
    · subst e; simp [hb] at ha
    · subst e; simp at ha
  · rcases stepB s.md b { s'.st with ends := false } with ⟨_ | m', u'⟩
    · intro _ hr _
      rcases hr with e | ⟨m1, v, v', e, e2, e3, e4, e5⟩ | ⟨_, _, _, _, e, _⟩
      · cases e
      · obtain ⟨_, rfl⟩ := Prod.mk.inj e
        obtain ⟨_, rfl⟩ := Prod.mk.inj e4
        exact Or.inl ⟨by simp [e5], rfl, e2, e3⟩
      · cases e
    · intro _ hr hg
      rcases hr with e | ⟨_, _, _, _, _, _, e, _⟩ | ⟨m1, v, v', e, e2, e3, e4⟩
      · cases e
      · cases e
      · obtain ⟨h1, rfl⟩ := Prod.mk.inj e
        obtain ⟨h2, rfl⟩ := Prod.mk.inj e2
        have h3 := Option.some.inj h1
        have h4 := Option.some.inj h2
        subst h3
        subst h4
        exact Or.inr ⟨⟨rfl, e3, hg.1⟩, rfl, e4⟩
theorem bad_take {b : Int} {s : Sc} {l : List Int} (h : (writeB l (takeB b s)).st.bad = 0) : (takeB b s).st.bad = 0 := by
  rcases Nat.eq_zero_or_pos (takeB b s).st.bad with g | g
  · exact g
  · rw [writeB_bad (by omega)] at h; exact h
theorem ct_run (p l : List Int) (hl : uByt l) : ∀ s s', Ct p s s' → (writeB l s).st.bad = 0 →
    ((writeB l s').st.bad = 5) ∨ (Ct p (writeB l s) (writeB l s') ∧ (writeB l s').size = s'.size + l.length) := by
  induction l with
  | nil => intro s s' h _; exact Or.inr ⟨h, by simp [writeB]⟩
  | cons b l ih =>
    intro s s' h hb
    have e : writeB (b :: l) s = writeB l (takeB b s) := by rw [writeB, if_pos h.r.core.bd.1]
    have e' : writeB (b :: l) s' = writeB l (takeB b s') := by rw [writeB, if_pos h.r.core.bd.2]
    rw [e] at hb ⊢
    rw [e']
    rcases ct_take h b (hl b (by simp)).1 (hl b (by simp)).2 (bad_take hb) with ⟨q, _⟩ | ⟨q, z, _⟩
    · left; rw [writeB_bad (by omega)]; exact q
    · rcases ih (fun x hx => hl x (by simp [hx])) _ _ q hb with r | ⟨r1, r2⟩
      · exact Or.inl r
      · exact Or.inr ⟨r1, by rw [r2, z]; simp; omega⟩
/-- the limit hangs on how many are open around alone -/
theorem ct_limit (p q l : List Int) (hpq : p.length = q.length) (hl : uByt l) : ∀ s s1 s2, Ct p s s1 → Ct q s s2 → (writeB l s).st.bad = 0 → (writeB l s2).st.bad = 5 → (writeB l s1).st.bad = 5 := by
  induction l with
  | nil => intro s s1 s2 _ h2 _ hb; exact absurd (show s2.st.bad = 5 from hb) (by have := h2.r.core.bd.2; omega)
  | cons b l ih =>
    intro s s1 s2 h1 h2 h0 hb
    have e : writeB (b :: l) s = writeB l (takeB b s) := by rw [writeB, if_pos h1.r.core.bd.1]
    have e1 : writeB (b :: l) s1 = writeB l (takeB b s1) := by rw [writeB, if_pos h1.r.core.bd.2]
    have e2 : writeB (b :: l) s2 = writeB l (takeB b s2) := by rw [writeB, if_pos h2.r.core.bd.2]
    rw [e] at h0
    rw [e2] at hb
    rw [e1]
    have b0 := (hl b (by simp)).1
    have b1 := (hl b (by simp)).2
    have hl' : uByt l := fun x hx => hl x (by simp [hx])
    rcases ct_take h1 b b0 b1 (bad_take h0) with ⟨k1, _⟩ | ⟨k1, _, k2⟩
    · rw [writeB_bad (by omega)]; exact k1
    · rcases ct_take h2 b b0 b1 (bad_take h0) with ⟨_, _, j1, j2⟩ | ⟨j1, _⟩
      · exact absurd (hpq ▸ j2) (k2 j1)
      · exact ih hl' _ _ _ k1 j1 h0 hb

/-- where a value may end, and nothing of an encoding is left -/
def EvR : Rs → Prop
  | (some m, u) => (u.ends = true → endM m = true) ∧ (m ≠ .encoding → u.begun = [])
  | (none, _) => True
structure Ev0 (t : St) : Prop where
  en : t.ends = false
  bg : t.begun = []
theorem ev_ite {c : Prop} [Decidable c] {x y : Rs} (h1 : EvR x) (h2 : EvR y) : EvR (if c then x else y) := by
  split
  · exact h1
  · exact h2
theorem ev_no {t : St} : EvR (no t) := trivial
theorem ev_go {t : St} (h : Ev0 t) (m : Md) : EvR (go m t) := ⟨fun e => (by rw [h.en] at e; cases e), fun _ => h.bg⟩
theorem ev_may {t : St} (h : Ev0 t) (m : Md) (hm : endM m = true) : EvR (mayE m t) := ⟨fun _ => hm, fun _ => h.bg⟩
theorem ev_closed {t : St} (h : Ev0 t) : EvR (closed t) := ⟨fun _ => rfl, fun _ => h.bg⟩
theorem ev_opened {t : St} (h : Ev0 t) (c : Int) (m : Md) : EvR (opened c m t) := by
  unfold opened
  split
  · trivial
  · exact ⟨fun e => (by rw [show ({ t with opn := t.opn ++ [c] } : St).ends = t.ends from rfl, h.en] at e; cases e), fun _ => h.bg⟩
theorem ev_quoted {t : St} (h : Ev0 t) (k : Bool) : EvR (quotedB k t) := ev_go (t := { t with isKey := k }) ⟨h.en, h.bg⟩ _
theorem ev_word {t : St} (h : Ev0 t) (l : List Int) : EvR (go .letter { t with word := l }) := ev_go (t := { t with word := l }) ⟨h.en, h.bg⟩ _
theorem ev_more {t : St} (h : Ev0 t) (n : Int) (k : Bool) : EvR (moreB n k t) := ev_go (t := { t with left := n, half := k }) ⟨h.en, h.bg⟩ _
theorem ev_encoding {t : St} (h : t.ends = false) (b : Int) : EvR (encodingB b t) := by
  unfold encodingB
  refine ev_ite ev_no (ev_ite ?_ ?_)
  · exact ⟨fun e => (by rw [show ({ t with begun := t.begun ++ [b] } : St).ends = t.ends from rfl, h] at e; cases e), fun e => absurd rfl e⟩
  · exact ⟨fun e => (by rw [show ({ t with begun := [] } : St).ends = t.ends from rfl, h] at e; cases e), fun _ => rfl⟩
theorem ev_behind {t : St} (h : Ev0 t) (b : Int) : EvR (behindB b t) := by
  unfold behindB
  exact ev_ite (ev_may h _ rfl) (ev_ite (ev_no) (ev_ite (ev_closed h) (ev_ite (ev_ite (ev_go h _) (ev_go h _)) (ev_no))))
theorem ev_minus {t : St} (h : Ev0 t) (b : Int) : EvR (minusB b t) := by
  unfold minusB
  exact ev_ite (ev_may h _ rfl) (ev_ite (ev_may h _ rfl) (ev_no))
theorem ev_number {t : St} (h : Ev0 t) (b : Int) : EvR (numberB b t) := by
  unfold numberB
  exact ev_ite (ev_go h _) (ev_minus h b)
theorem ev_named {t : St} (h : Ev0 t) (b : Int) : EvR (namedB b t) := by
  unfold namedB
  exact ev_ite (ev_word h _) (ev_ite (ev_word h _) (ev_ite (ev_word h _) (ev_no)))
theorem ev_value {t : St} (h : Ev0 t) (b : Int) : EvR (valueB b t) := by
  unfold valueB
  exact ev_ite (ev_go h _) (ev_ite (ev_quoted h _) (ev_ite (ev_opened h _ _) (ev_ite (ev_opened h _ _) (ev_ite (ev_number h b) (ev_ite (ev_number h b) (ev_named h b))))))
theorem ev_letter {t : St} (h : Ev0 t) (b : Int) : EvR (letterB b t) := by
  unfold letterB
  exact ev_ite (ev_ite ⟨fun _ => rfl, fun _ => h.bg⟩ (ev_word h _)) ev_no
theorem ev_firstElement {t : St} (h : Ev0 t) (b : Int) : EvR (firstElementB b t) := by
  unfold firstElementB
  exact ev_ite (ev_go h _) (ev_ite (ev_closed h) (ev_value h b))
theorem ev_key {t : St} (h : Ev0 t) (b : Int) : EvR (keyB b t) := by
  unfold keyB
  exact ev_ite (ev_go h _) (ev_ite (ev_quoted h _) (ev_no))
theorem ev_firstKey {t : St} (h : Ev0 t) (b : Int) : EvR (firstKeyB b t) := by
  unfold firstKeyB
  exact ev_ite (ev_go h _) (ev_ite (ev_closed h) (ev_key h b))
theorem ev_colon {t : St} (h : Ev0 t) (b : Int) : EvR (colonB b t) := by
  unfold colonB
  exact ev_ite (ev_go h _) (ev_ite (ev_go h _) (ev_no))
theorem ev_decimals {t : St} (h : Ev0 t) (b : Int) : EvR (decimalsB b t) := by
  unfold decimalsB
  exact ev_ite (ev_go h _) (ev_behind h b)
theorem ev_whole {t : St} (h : Ev0 t) (b : Int) : EvR (wholeB b t) := by
  unfold wholeB
  exact ev_ite (ev_go h _) (ev_decimals h b)
theorem ev_digits {t : St} (h : Ev0 t) (b : Int) : EvR (digitsB b t) := by
  unfold digitsB
  exact ev_ite (ev_may h _ rfl) (ev_whole h b)
theorem ev_point {t : St} (h : Ev0 t) (b : Int) : EvR (pointB b t) := by
  unfold pointB
  exact ev_ite (ev_may h _ rfl) (ev_no)
theorem ev_fraction {t : St} (h : Ev0 t) (b : Int) : EvR (fractionB b t) := by
  unfold fractionB
  exact ev_ite (ev_may h _ rfl) (ev_decimals h b)
theorem ev_sign {t : St} (h : Ev0 t) (b : Int) : EvR (signB b t) := by
  unfold signB
  exact ev_ite (ev_may h _ rfl) (ev_no)
theorem ev_exponent {t : St} (h : Ev0 t) (b : Int) : EvR (exponentB b t) := by
  unfold exponentB
  exact ev_ite (ev_go h _) (ev_sign h b)
theorem ev_power {t : St} (h : Ev0 t) (b : Int) : EvR (powerB b t) := by
  unfold powerB
  exact ev_ite (ev_may h _ rfl) (ev_behind h b)
theorem ev_unquoted {t : St} (h : Ev0 t) : EvR (unquotedB t) := by
  unfold unquotedB
  exact ev_ite (ev_go h _) (ev_may h _ rfl)
theorem ev_piece {t : St} (h : Ev0 t) (b : Int) : EvR (pieceB b t) := by
  unfold pieceB
  exact ev_ite (ev_unquoted h) (ev_ite (ev_go h _) (ev_ite (ev_no) (ev_ite (ev_go h _) (ev_encoding h.en b))))
theorem ev_backslash {t : St} (h : Ev0 t) (b : Int) : EvR (backslashB b t) := by
  unfold backslashB
  exact ev_ite (ev_go h _) (ev_ite (ev_go h _) (ev_no))
theorem ev_unit {t : St} (h : Ev0 t) (b : Int) : EvR (unitB b t) := by
  unfold unitB
  exact ev_ite (ev_go h _) (ev_ite (ev_more h _ _) (ev_no))
theorem ev_behindD {t : St} (h : Ev0 t) (b : Int) : EvR (behindDB b t) := by
  unfold behindDB
  exact ev_ite (ev_more h _ _) (ev_ite (ev_more h _ _) (ev_no))
theorem ev_digitsLeft {t : St} (h : Ev0 t) (b : Int) : EvR (digitsLeftB b t) := by
  have h1 : Ev0 { t with left := t.left - 1 } := ⟨h.en, h.bg⟩
  unfold digitsLeftB
  exact ev_ite (ev_ite (ev_go h1 _) (ev_ite (ev_go h1 _) (ev_go h1 _))) ev_no
theorem ev_secondHalf {t : St} (h : Ev0 t) (b : Int) : EvR (secondHalfB b t) := by
  unfold secondHalfB
  exact ev_ite (ev_go h _) (ev_no)
theorem ev_secondU {t : St} (h : Ev0 t) (b : Int) : EvR (secondUB b t) := by
  unfold secondUB
  exact ev_ite (ev_go h _) (ev_no)
theorem ev_secondD {t : St} (h : Ev0 t) (b : Int) : EvR (secondDB b t) := by
  unfold secondDB
  exact ev_ite (ev_go h _) (ev_no)
theorem ev_secondSpan {t : St} (h : Ev0 t) (b : Int) : EvR (secondSpanB b t) := by
  unfold secondSpanB
  exact ev_ite (ev_more h _ _) (ev_no)
theorem ev_step {m : Md} {t : St} (he : t.ends = false) (hb : m ≠ .encoding → t.begun = []) (b : Int) : EvR (stepB m b t) := by
  cases m with
  | encoding => exact ev_encoding he b
  | value => exact ev_value ⟨he, hb nofun⟩ b
  | firstElement => exact ev_firstElement ⟨he, hb nofun⟩ b
  | firstKey => exact ev_firstKey ⟨he, hb nofun⟩ b
  | key => exact ev_key ⟨he, hb nofun⟩ b
  | colon => exact ev_colon ⟨he, hb nofun⟩ b
  | behind => exact ev_behind ⟨he, hb nofun⟩ b
  | letter => exact ev_letter ⟨he, hb nofun⟩ b
  | minus => exact ev_minus ⟨he, hb nofun⟩ b
  | wholePart => exact ev_whole ⟨he, hb nofun⟩ b
  | digits => exact ev_digits ⟨he, hb nofun⟩ b
  | point => exact ev_point ⟨he, hb nofun⟩ b
  | fraction => exact ev_fraction ⟨he, hb nofun⟩ b
  | exponent => exact ev_exponent ⟨he, hb nofun⟩ b
  | sign => exact ev_sign ⟨he, hb nofun⟩ b
  | power => exact ev_power ⟨he, hb nofun⟩ b
  | piece => exact ev_piece ⟨he, hb nofun⟩ b
  | backslash => exact ev_backslash ⟨he, hb nofun⟩ b
  | unit => exact ev_unit ⟨he, hb nofun⟩ b
  | behindD => exact ev_behindD ⟨he, hb nofun⟩ b
  | digitsLeft => exact ev_digitsLeft ⟨he, hb nofun⟩ b
  | secondHalf => exact ev_secondHalf ⟨he, hb nofun⟩ b
  | secondU => exact ev_secondU ⟨he, hb nofun⟩ b
  | secondD => exact ev_secondD ⟨he, hb nofun⟩ b
  | secondSpan => exact ev_secondSpan ⟨he, hb nofun⟩ b
def EvS (s : Sc) : Prop := s.st.bad = 0 → (s.st.ends = true → endM s.md = true) ∧ (s.md ≠ .encoding → s.st.begun = [])
theorem ev_take {s : Sc} (h : EvS s) (h0 : s.st.bad = 0) (b : Int) : EvS (takeB b s) := by
  have he := ev_step (t := { s.st with ends := false }) (m := s.md) rfl (h h0).2 b
  unfold takeB
  revert he
  rcases stepB s.md b { s.st with ends := false } with ⟨_ | m, u⟩
  · intro _ hb
    exfalso
    simp only at hb
    split at hb
    · cases hb
    · rename_i q; exact q hb
  · intro he _; exact he
theorem ev_write (l : List Int) : ∀ s, EvS s → EvS (writeB l s) := by
  induction l with
  | nil => exact fun s h => h
  | cons b l ih =>
    intro s h
    rw [writeB]
    split
    · rename_i q; exact ih _ (ev_take h q b)
    · exact h
theorem ev_text (l : List Int) : EvS (writeB l sc0) := ev_write l sc0 (fun _ => ⟨nofun, fun _ => rfl⟩)
/-- a JSON text -/
def Txt (l : List Int) : Prop := codeC (writeB l sc0) = 0
theorem txt_end {l : List Int} (h : Txt l) : (writeB l sc0).st.bad = 0 ∧ (writeB l sc0).st.ends = true ∧ (writeB l sc0).st.opn = [] ∧ endM (writeB l sc0).md = true ∧ (writeB l sc0).st.begun = [] := by
  have hv := ev_text l
  unfold Txt codeC at h
  split at h
  · rename_i hb
    split at h
    · rename_i hw
      simp [wholeB'] at hw
      have := (hv hb).1 hw.1
      refine ⟨hb, hw.1, hw.2, this, (hv hb).2 (fun e => ?_)⟩
      rw [e] at this; cases this
    · cases h
  · rename_i q; exact absurd h q
/-- before a value or a key, within brackets p -/
structure InS (m : Md) (p : List Int) (s : Sc) : Prop where
  md : s.md = m
  bad : s.st.bad = 0
  opn : s.st.opn = p
  bg : s.st.begun = []
  en : s.st.ends = false
/-- behind a value, within brackets p -/
structure EndS (p : List Int) (s : Sc) : Prop where
  md : endM s.md = true
  bad : s.st.bad = 0
  opn : s.st.opn = p
  bg : s.st.begun = []
theorem in_ct {p : List Int} {s : Sc} (h : InS .value p s) : Ct p sc0 s := by
  obtain ⟨m, z, t⟩ := s
  obtain ⟨rfl, h2, h3, h4, h5⟩ := h
  exact ⟨rfl, ⟨⟨by simp at h3; simp [sc0, h3], h5, h4, rfl, h2⟩, nofun, nofun, nofun⟩, good0.ok rfl⟩
theorem end_of {p l : List Int} {s : Sc} (h : Txt l) (hc : Ct p (writeB l sc0) s) : EndS p s := by
  have ht := txt_end h
  exact ⟨by rw [hc.md]; exact ht.2.2.2.1, hc.r.core.bd.2, by rw [hc.r.core.opn, ht.2.2.1]; simp, by rw [hc.r.core.bg]; exact ht.2.2.2.2⟩
theorem seg_value {p l : List Int} {s : Sc} (hl : uByt l) (h : InS .value p s) (ht : Txt l) : (writeB l s).st.bad = 5 ∨ (EndS p (writeB l s) ∧ (writeB l s).size = s.size + l.length) := by
  rcases ct_run p l hl sc0 s (in_ct h) (txt_end ht).1 with q | ⟨q, z⟩
  · exact Or.inl q
  · exact Or.inr ⟨end_of ht q, z⟩
theorem value_93 (t : St) : valueB 93 t = (none, t) := rfl
/-- behind an opening square bracket: the same, but that it may close -/
theorem first_same {p : List Int} {s : Sc} (h : InS .firstElement p s) {b : Int} (hb : blankB b = false) (h93 : b ≠ 93) : takeB b s = takeB b { s with md := .value } ∨ ((takeB b s).st = (takeB b { s with md := .value }).st ∧ (takeB b s).size = (takeB b { s with md := .value }).size ∧ (takeB b { s with md := .value }).st.bad ≠ 0) := by
  obtain ⟨m, z, t⟩ := s
  obtain ⟨rfl, h2, h3, h4, h5⟩ := h
  have e : stepB .firstElement b { t with ends := false } = stepB .value b { t with ends := false } := by
    show firstElementB b _ = valueB b _
    unfold firstElementB
    rw [if_neg (by simp [hb]), if_neg h93]
  unfold takeB
  simp only
  rw [e]
  rcases stepB .value b { t with ends := false } with ⟨_ | m, u⟩
  · refine Or.inr ⟨rfl, rfl, ?_⟩
    simp only
    split
    · omega
    · assumption
  · exact Or.inl rfl
theorem first_run (p l : List Int) (hl : uByt l) : ∀ (s0 s : Sc), Ct p s0 { s with md := .value } → s0.md = .value → InS .firstElement p s → (writeB l s0).st.bad = 0 →
    (writeB l s).st.bad = 5 ∨ ((writeB l s).size = s.size + l.length ∧ ((writeB l s0).md = .value ∨ Ct p (writeB l s0) (writeB l s))) := by
  induction l with
  | nil => intro s0 s _ hm _ _; exact Or.inr ⟨by simp [writeB], Or.inl hm⟩
  | cons b l ih =>
    intro s0 s hc hm hi hb
    have hl' : uByt l := fun x hx => hl x (by simp [hx])
    have b0 := (hl b (by simp)).1
    have b1 := (hl b (by simp)).2
    have e0 : writeB (b :: l) s0 = writeB l (takeB b s0) := by rw [writeB, if_pos hc.r.core.bd.1]
    have e1 : writeB (b :: l) s = writeB l (takeB b s) := by rw [writeB, if_pos hi.bad]
    rw [e0] at hb ⊢
    rw [e1]
    have hbt := bad_take hb
    cases hq : blankB b with
    | true =>
      have k0 : takeB b s0 = ⟨.value, s0.size + 1, { s0.st with ends := false }⟩ := by
        obtain ⟨m, z, t⟩ := s0
        simp only at hm
        subst hm
        simp [takeB, stepB, valueB, hq, go]
      have k1 : takeB b s = ⟨.firstElement, s.size + 1, { s.st with ends := false }⟩ := by
        obtain ⟨m, z, t⟩ := s
        obtain ⟨rfl, _⟩ := hi
        simp [takeB, stepB, firstElementB, hq, go]
      rw [k0] at hb ⊢
      rw [k1]
      have hcr := hc.r.core
      have hg := hc.gd
      rw [hm] at hg
      rcases ih hl' ⟨.value, s0.size + 1, { s0.st with ends := false }⟩ ⟨.firstElement, s.size + 1, { s.st with ends := false }⟩ ⟨rfl, ⟨⟨hcr.opn, rfl, hcr.bg, hcr.bd⟩, nofun, nofun, nofun⟩, good_false hg⟩ rfl ⟨rfl, hi.bad, hi.opn, hi.bg, rfl⟩ hb with r | ⟨r, r2⟩
      · exact Or.inl r
      · exact Or.inr ⟨by rw [r]; simp; omega, r2⟩
    | false =>
      have h93 : b ≠ 93 := fun e => by
        subst e
        have : takeB 93 s0 = ⟨s0.md, s0.size, { s0.st with ends := false, bad := if s0.st.bad = 0 then 3 else s0.st.bad }⟩ := by
          obtain ⟨m, z, t⟩ := s0
          simp only at hm
          subst hm
          rfl
        rw [this] at hbt
        simp only at hbt
        split at hbt
        · cases hbt
        · rename_i q; exact q hbt
      rcases ct_take hc b b0 b1 hbt with ⟨k1, _⟩ | ⟨k1, k2, _⟩
      · left
        rcases first_same hi hq h93 with e | ⟨e, _, _⟩
        · rw [e, writeB_bad (by omega)]; exact k1
        · have : (takeB b s).st.bad = 5 := by rw [e]; exact k1
          rw [writeB_bad (by omega)]; exact this
      · rcases first_same hi hq h93 with e | ⟨_, _, e⟩
        · rw [e]
          rcases ct_run p l hl' _ _ k1 hb with r | ⟨r1, r2⟩
          · exact Or.inl r
          · exact Or.inr ⟨by rw [r2, k2]; simp; omega, Or.inr r1⟩
        · exact absurd k1.r.core.bd.2 e
theorem in_first {p : List Int} {s : Sc} (h : InS .firstElement p s) : Ct p sc0 { s with md := .value } := in_ct ⟨rfl, h.bad, h.opn, h.bg, h.en⟩
theorem seg_first {p l : List Int} {s : Sc} (hl : uByt l) (h : InS .firstElement p s) (ht : Txt l) : (writeB l s).st.bad = 5 ∨ (EndS p (writeB l s) ∧ (writeB l s).size = s.size + l.length) := by
  rcases first_run p l hl sc0 s (in_first h) rfl h (txt_end ht).1 with q | ⟨z, q | q⟩
  · exact Or.inl q
  · have := (txt_end ht).2.2.2.1
    rw [q] at this; cases this
  · exact Or.inr ⟨end_of ht q, z⟩
theorem end_step {p : List Int} {s : Sc} (h : EndS p s) {b : Int} (hb : b = 44 ∨ b = 93 ∨ b = 125) : stepB s.md b { s.st with ends := false } = behindB b { s.st with ends := false } := by
  have hm := h.md
  revert hm
  cases s.md <;> intro hm <;> first
    | (cases hm; done)
    | (rcases hb with rfl | rfl | rfl <;> simp [stepB, wholeB, decimalsB, digitsB, fractionB, powerB, digB])
theorem comma_list {s : Sc} (h : EndS [93] s) : InS .value [93] (takeB 44 s) ∧ (takeB 44 s).size = s.size + 1 := by
  have e : takeB 44 s = ⟨.value, s.size + 1, { s.st with ends := false }⟩ := by
    unfold takeB; rw [end_step h (by omega)]; simp [behindB, blankB, h.opn, go]
  rw [e]; exact ⟨⟨rfl, h.bad, h.opn, h.bg, rfl⟩, rfl⟩
theorem comma_map {s : Sc} (h : EndS [125] s) : InS .key [125] (takeB 44 s) ∧ (takeB 44 s).size = s.size + 1 := by
  have e : takeB 44 s = ⟨.key, s.size + 1, { s.st with ends := false }⟩ := by
    unfold takeB; rw [end_step h (by omega)]; simp [behindB, blankB, h.opn, go]
  rw [e]; exact ⟨⟨rfl, h.bad, h.opn, h.bg, rfl⟩, rfl⟩
theorem close_of {c : Int} (hc : c = 93 ∨ c = 125) {s : Sc} (h : EndS [c] s) : BhS (takeB c s) := by
  have e : takeB c s = ⟨.behind, s.size + 1, { s.st with ends := true, opn := [] }⟩ := by
    unfold takeB; rw [end_step h (by omega)]
    rcases hc with rfl | rfl <;> simp [behindB, blankB, h.opn, closed, mayE]
  rw [e]; exact ⟨rfl, h.bad, rfl, rfl⟩

/-- within a literal that is a key -/
structure LitK (p : List Int) (s : Sc) (σ : XS) : Prop where
  bad : s.st.bad = 0
  key : s.st.isKey = true
  opn : s.st.opn = p
  en : s.st.ends = false
  lr : Lr s.st σ s.md
theorem litk_take {p : List Int} {s : Sc} {σ : XS} (h : LitK p s σ) (b : Int) (h0 : 0 ≤ b) (h1 : b < 256) :
    xStep σ b = none ∨ (∃ σ' u, xStep σ b = some (σ', u) ∧ σ' ≠ .fin ∧ LitK p (takeB b s) σ') ∨ (xStep σ b = some (.fin, []) ∧ InS .colon p (takeB b s)) := by
  have hs := sim_step (lr_ends h.lr false) b h0 h1
  rcases hs with ⟨hr, hx⟩ | ⟨m', t', σ', u, hr, hx, hf, hl, hk, ho, hb, he⟩ | ⟨hr, hx, hbg⟩
  · exact Or.inl hx
  · have e : takeB b s = ⟨m', s.size + 1, t'⟩ := by unfold takeB; rw [hr]
    rw [e]
    exact Or.inr (Or.inl ⟨σ', u, hx, hf, ⟨hb.trans h.bad, hk.trans h.key, ho.trans h.opn, he, hl⟩⟩)
  · have hu : unquotedB { s.st with ends := false } = (some .colon, { s.st with ends := false }) := by simp [unquotedB, h.key, go]
    have e : takeB b s = ⟨.colon, s.size + 1, { s.st with ends := false }⟩ := by unfold takeB; rw [hr, hu]
    rw [e]
    exact Or.inr (Or.inr ⟨hx, ⟨rfl, h.bad, h.opn, hbg, rfl⟩⟩)
theorem litk_run {p : List Int} (ls : List Int) : ∀ (s : Sc) (σ : XS) (t : List Int) (k : Nat) (u : List Int) (n : Nat), LitK p s σ → uByt ls → xRun σ ls t k = .ok u n → k < n ∧ n ≤ k + ls.length ∧ InS .colon p (writeB (ls.take (n - k)) s) := by
  induction ls with
  | nil => intro s σ t k u n h _ hx; rw [xRun_end] at hx; cases hx
  | cons b ls ih =>
    intro s σ t k u n h hb hx
    have b0 := (hb b (by simp)).1
    have b1 := (hb b (by simp)).2
    have hb' : uByt ls := fun x hx => hb x (by simp [hx])
    rcases litk_take h b b0 b1 with hs | ⟨σ', v, hs, hf, hl⟩ | ⟨hs, hl⟩
    · rw [xRun_bad hs] at hx; cases hx
    · rw [xRun_step hs hf] at hx
      obtain ⟨q1, q2, q3⟩ := ih (takeB b s) σ' (t ++ v) (k + 1) u n hl hb' hx
      obtain ⟨m, hm⟩ : ∃ m, n - k = m + 1 := ⟨n - k - 1, by omega⟩
      have hm2 : n - (k + 1) = m := by omega
      rw [hm2] at q3
      have e2 : writeB ((b :: ls).take (m + 1)) s = writeB (ls.take m) (takeB b s) := by rw [List.take_succ_cons, writeB, if_pos h.bad]
      exact ⟨by omega, by simp; omega, by rw [hm, e2]; exact q3⟩
    · rw [xRun_fin hs] at hx
      obtain ⟨_, rfl⟩ := XO.ok.inj hx
      have e2 : writeB ((b :: ls).take 1) s = takeB b s := by rw [List.take_succ_cons, writeB, if_pos h.bad]; rfl
      exact ⟨by omega, by simp, by rw [show k + 1 - k = 1 by omega, e2]; exact hl⟩
theorem key_first {p : List Int} {s : Sc} (h : InS .firstKey p s ∨ InS .key p s) : LitK p (takeB 34 s) .inn := by
  have e : takeB 34 s = ⟨.piece, s.size + 1, { s.st with ends := false, isKey := true }⟩ := by
    obtain ⟨m, z, t⟩ := s
    rcases h with h | h <;> (obtain ⟨rfl, _⟩ := h; rfl)
  rw [e]
  rcases h with h | h <;> exact ⟨h.bad, rfl, h.opn, rfl, h.bg, rfl⟩
theorem key_run {p ps : List Int} (hp : uPts ps) (hb : uByt (uFlat ps)) {s : Sc} (h : InS .firstKey p s ∨ InS .key p s) : InS .colon p (writeB (xQ (uFlat ps)) s) := by
  have hx := xRun_quoted (r := []) hp
  have hq : uByt (xQ (uFlat ps)) := xQ_byt hb
  have hs0 : s.st.bad = 0 := by rcases h with h | h <;> exact h.bad
  have e : xQ (uFlat ps) = 34 :: ((uFlat ps).flatMap xEsc ++ [34]) := by simp [xQ]
  rw [List.append_nil] at hx
  rw [e] at hx hq ⊢
  rw [xRun_step (σ' := .inn) (u := []) rfl nofun] at hx
  have hr := litk_run _ (takeB 34 s) .inn _ _ _ _ (key_first h) (fun x g => hq x (by simp [g])) hx
  rw [writeB, if_pos hs0]
  have := hr.2.2
  rwa [List.take_of_length_le (by simp)] at this
theorem colon_58 {p : List Int} {s : Sc} (h : InS .colon p s) : InS .value p (takeB 58 s) := by
  obtain ⟨m, z, t⟩ := s
  obtain ⟨rfl, h2, h3, h4, h5⟩ := h
  exact ⟨rfl, h2, h3, h4, rfl⟩
theorem colon_32 {p : List Int} {s : Sc} (h : InS .colon p s) : InS .colon p (takeB 32 s) := by
  obtain ⟨m, z, t⟩ := s
  obtain ⟨rfl, h2, h3, h4, h5⟩ := h
  exact ⟨rfl, h2, h3, h4, rfl⟩
theorem value_32 {p : List Int} {s : Sc} (h : InS .value p s) : InS .value p (takeB 32 s) := by
  obtain ⟨m, z, t⟩ := s
  obtain ⟨rfl, h2, h3, h4, h5⟩ := h
  exact ⟨rfl, h2, h3, h4, rfl⟩
theorem open_91 : InS .firstElement [93] (takeB 91 sc0) := ⟨rfl, rfl, rfl, rfl, rfl⟩
theorem open_123 : InS .firstKey [125] (takeB 123 sc0) := ⟨rfl, rfl, rfl, rfl, rfl⟩
theorem writeB_one {b : Int} {s : Sc} (h : s.st.bad = 0) (l : List Int) : writeB (b :: l) s = writeB l (takeB b s) := by rw [writeB, if_pos h]
theorem code_five {l : List Int} {s : Sc} (h : s.st.bad = 5) : codeC (writeB l s) = 5 := by
  rw [writeB_bad (by omega), codeC, if_neg (by omega), h]
/-- the limit of an element is the limit of a value -/
theorem first_lim (p q l : List Int) (hpq : p.length = q.length) (hl : uByt l) : ∀ s0 s1 s2, Ct p s0 { s1 with md := .value } → s0.md = .value → InS .firstElement p s1 → Ct q s0 s2 → (writeB l s0).st.bad = 0 → (writeB l s2).st.bad = 5 → (writeB l s1).st.bad = 5 := by
  induction l with
  | nil => intro s0 s1 s2 _ _ _ h2 _ hb; exact absurd (show s2.st.bad = 5 from hb) (by have := h2.r.core.bd.2; omega)
  | cons b l ih =>
    intro s0 s1 s2 hc hm hi h2 h0 hb
    have hl' : uByt l := fun x hx => hl x (by simp [hx])
    have b0 := (hl b (by simp)).1
    have b1 := (hl b (by simp)).2
    cases hq : blankB b with
    | true =>
      rw [writeB_one hc.r.core.bd.1] at h0
      rw [writeB_one h2.r.core.bd.2] at hb
      rw [writeB_one hi.bad]
      have k0 : takeB b s0 = ⟨.value, s0.size + 1, { s0.st with ends := false }⟩ := by
        obtain ⟨m, z, t⟩ := s0
        simp only at hm
        subst hm
        simp [takeB, stepB, valueB, hq, go]
      have k1 : takeB b s1 = ⟨.firstElement, s1.size + 1, { s1.st with ends := false }⟩ := by
        obtain ⟨m, z, t⟩ := s1
        obtain ⟨rfl, _⟩ := hi
        simp [takeB, stepB, firstElementB, hq, go]
      have hbt := bad_take h0
      have hcr := hc.r.core
      have hg := hc.gd
      rw [hm] at hg
      rcases ct_take h2 b b0 b1 hbt with ⟨_, _, j1, _⟩ | ⟨j1, _⟩
      · rw [k0] at j1
        simp at j1
      · rw [k0] at h0 j1
        rw [k1]
        exact ih hl' ⟨.value, s0.size + 1, { s0.st with ends := false }⟩ ⟨.firstElement, s1.size + 1, { s1.st with ends := false }⟩ _ ⟨rfl, ⟨⟨hcr.opn, rfl, hcr.bg, hcr.bd⟩, nofun, nofun, nofun⟩, good_false hg⟩ rfl ⟨rfl, hi.bad, hi.opn, hi.bg, rfl⟩ j1 h0 hb
    | false =>
      have hL := ct_limit p q (b :: l) hpq hl s0 _ s2 hc h2 h0 hb
      rw [writeB_one hc.r.core.bd.1] at h0
      have hbt := bad_take h0
      have h93 : b ≠ 93 := fun e => by
        subst e
        have : takeB 93 s0 = ⟨s0.md, s0.size, { s0.st with ends := false, bad := if s0.st.bad = 0 then 3 else s0.st.bad }⟩ := by
          obtain ⟨m, z, t⟩ := s0
          simp only at hm
          subst hm
          rfl
        rw [this] at hbt
        simp only at hbt
        split at hbt
        · cases hbt
        · rename_i q; exact q hbt
      rw [writeB_one hi.bad]
      rw [writeB_one (show ({ s1 with md := .value } : Sc).st.bad = 0 from hi.bad)] at hL
      rcases first_same hi hq h93 with e | ⟨e, _, e2⟩
      · rw [e]; exact hL
      · rw [writeB_bad e2] at hL
        have : (takeB b s1).st.bad = 5 := by rw [e]; exact hL
        rw [writeB_bad (by omega)]; exact this
/-- a list of two texts -/
def lstT (a b : List Int) : List Int := [91] ++ a ++ [44] ++ b ++ [93]
/-- a map of two texts -/
def mapT (k a b : List Int) : List Int := [123] ++ k ++ [58] ++ a ++ [44] ++ k ++ [32, 58, 32] ++ b ++ [125]
theorem list_code {a b : List Int} (ha : uByt a) (hb : uByt b) (ta : Txt a) (tb : Txt b) : codeC (writeB (lstT a b) sc0) = 5 ∨ codeC (writeB (lstT a b) sc0) = 0 := by
  have e : writeB (lstT a b) sc0 = writeB [93] (writeB b (writeB [44] (writeB a (takeB 91 sc0)))) := by
    unfold lstT
    rw [writeB_append, writeB_append, writeB_append, writeB_append]
    rfl
  rw [e]
  rcases seg_first ha open_91 ta with q | ⟨q, _⟩
  · left
    rw [writeB_bad (l := [44]) (by omega), writeB_bad (l := b) (by omega)]
    exact code_five q
  · rw [writeB_one q.bad [], show ∀ s, writeB [] s = s from fun _ => rfl]
    rcases seg_value hb (comma_list q).1 tb with r | ⟨r, _⟩
    · exact Or.inl (code_five r)
    · right
      rw [writeB_one r.bad []]
      exact bh_code (close_of (Or.inl rfl) r)
theorem pair_code {a b ps : List Int} (ha : uByt a) (hb : uByt b) (ta : Txt a) (tb : Txt b) (hp : uPts ps) (hk : uByt (uFlat ps)) (h : codeC (writeB (lstT a b) sc0) ≠ 5) : codeC (writeB (mapT (xQ (uFlat ps)) a b) sc0) = 0 := by
  have nil : ∀ s, writeB [] s = s := fun _ => rfl
  have e : writeB (lstT a b) sc0 = writeB [93] (writeB b (writeB [44] (writeB a (takeB 91 sc0)))) := by
    unfold lstT
    rw [writeB_append, writeB_append, writeB_append, writeB_append]
    rfl
  have e2 : writeB (mapT (xQ (uFlat ps)) a b) sc0 = writeB [125] (writeB b (writeB [32, 58, 32] (writeB (xQ (uFlat ps)) (writeB [44] (writeB a (writeB [58] (writeB (xQ (uFlat ps)) (takeB 123 sc0)))))))) := by
    unfold mapT
    rw [writeB_append, writeB_append, writeB_append, writeB_append, writeB_append, writeB_append, writeB_append, writeB_append]
    rfl
  rw [e] at h
  rw [e2]
  have m1 := key_run hp hk (Or.inl open_123)
  rw [writeB_one m1.bad [], nil]
  have m2 := colon_58 m1
  have na : (writeB a (takeB 91 sc0)).st.bad ≠ 5 := fun q => h (by
    rw [writeB_bad (l := [44]) (by omega), writeB_bad (l := b) (by omega)]
    exact code_five q)
  rcases seg_first ha open_91 ta with q | ⟨q, _⟩
  · exact absurd q na
  rw [writeB_one q.bad [], nil] at h
  have nb : (writeB b (takeB 44 (writeB a (takeB 91 sc0)))).st.bad ≠ 5 := fun q => h (code_five q)
  rcases seg_value ha m2 ta with r | ⟨r, _⟩
  · exact absurd (first_lim [93] [125] a rfl ha sc0 (takeB 91 sc0) _ (in_first open_91) rfl open_91 (in_ct m2) (txt_end ta).1 r) na
  rw [writeB_one r.bad [], nil]
  have m3 := (comma_map r).1
  have m4 := key_run hp hk (Or.inr m3)
  have m5 := colon_32 m4
  have m6 := colon_58 m5
  have m7 := value_32 m6
  rw [writeB_one m4.bad, writeB_one m5.bad, writeB_one m6.bad, nil]
  rcases seg_value hb m7 tb with u | ⟨u, _⟩
  · exact absurd (ct_limit [93] [125] b rfl hb sc0 _ _ (in_ct (comma_list q).1) (in_ct m7) (txt_end tb).1 u) nb
  rw [writeB_one u.bad []]
  exact bh_code (close_of (Or.inr rfl) u)
theorem pair_no (a b : List Int) : codeC (writeB (mapT [] a b) sc0) = 3 := by
  have e : writeB (mapT [] a b) sc0 = writeB (a ++ [44] ++ [] ++ [32, 58, 32] ++ b ++ [125]) (takeB 58 (takeB 123 sc0)) := by
    unfold mapT
    simp only [List.cons_append, List.nil_append, List.append_nil, List.append_assoc]
    rw [writeB_one rfl, writeB_one rfl]
  have h3 : (takeB 58 (takeB 123 sc0)).st.bad = 3 := rfl
  rw [e, writeB_bad (by omega), codeC, if_neg (by omega), h3]
theorem take_bad {s : Sc} (h : GoodS s) (h0 : s.st.bad = 0) {b : Int} (b0 : 0 ≤ b) (b1 : b < 256) (hb : (takeB b s).st.bad ≠ 0) : (takeB b s).size = s.size := by
  have hg := gr_step (good_false (h.ok h0)) b b0 b1
  revert hb hg
  unfold takeB
  rcases stepB s.md b { s.st with ends := false } with ⟨_ | m, t⟩
  · intro _ _; rfl
  · intro hb hg; exact absurd (hg.2.trans h0) hb
/-- what stands ahead of the place is good -/
theorem ahead (l : List Int) (hl : uByt l) : ∀ s, GoodS s → s.st.bad = 0 → (writeB (l.take ((writeB l s).size - s.size)) s).st.bad = 0 := by
  induction l with
  | nil => intro s _ h; simpa [writeB] using h
  | cons b l ih =>
    intro s hg h
    have b0 := (hl b (by simp)).1
    have b1 := (hl b (by simp)).2
    have hl' : uByt l := fun x hx => hl x (by simp [hx])
    rw [writeB_one h]
    by_cases hb : (takeB b s).st.bad = 0
    · have hz := (take_size b s).2.2 hb
      have h2 := (write_size l (takeB b s)).2.1
      obtain ⟨m, hm⟩ : ∃ m, (writeB l (takeB b s)).size - s.size = m + 1 := ⟨(writeB l (takeB b s)).size - s.size - 1, by omega⟩
      have hi := ih hl' _ (good_take hg h b b0 b1) hb
      rw [show (writeB l (takeB b s)).size - (takeB b s).size = m by omega] at hi
      rw [hm, List.take_succ_cons, writeB_one h]
      exact hi
    · rw [writeB_bad hb, take_bad hg h b0 b1 hb, Nat.sub_self]
      exact h
theorem one_code {a : List Int} (ha : uByt a) : codeC (writeB ([91] ++ a) sc0) = 5 ∨ (writeB a sc0).size + 1 ≤ (writeB ([91] ++ a) sc0).size := by
  obtain ⟨n, hn⟩ : ∃ n, (writeB a sc0).size = n := ⟨_, rfl⟩
  have hle : n ≤ a.length := by have := (write_size a sc0).1; simp [sc0] at this; simpa [← hn, sc0] using this
  have h0 := ahead a ha sc0 good0 rfl
  rw [hn, show sc0.size = 0 from rfl, Nat.sub_zero] at h0
  have e : writeB ([91] ++ a) sc0 = writeB (a.drop n) (writeB (a.take n) (takeB 91 sc0)) := by
    rw [← writeB_append, List.take_append_drop]; rfl
  rw [e, hn]
  have hu : uByt (a.take n) := fun x hx => ha x (List.mem_of_mem_take hx)
  rcases first_run [93] (a.take n) hu sc0 (takeB 91 sc0) (in_first open_91) rfl open_91 h0 with q | ⟨q, _⟩
  · exact Or.inl (code_five q)
  · right
    have h1 := (write_size (a.drop n) (writeB (a.take n) (takeB 91 sc0))).2.1
    have h2 : (takeB 91 sc0).size = 1 := rfl
    have h3 : (a.take n).length = n := by simp; omega
    omega

end Go.Proofs.YtefmlajndillbabGreatDoor
