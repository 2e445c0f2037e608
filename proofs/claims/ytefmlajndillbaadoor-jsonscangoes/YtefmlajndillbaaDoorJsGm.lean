/- JsonscanGoes, plain: what can be gone on with -/
import Derived.Test.YtefmlajndillbaaDoorJsV
namespace Go.Proofs.YtefmlajndillbaaDoor
open Go.RowKit
set_option linter.unusedVariables false

/-- the letters of the words, which can be told -/
structure NvC (t : St) : Prop where
  wl : ∀ c ∈ t.word, c = 117 ∨ c = 108 ∨ c = 114 ∨ c = 101 ∨ c = 97 ∨ c = 115
  wn : t.word.length ≤ 4
structure Nv (m : Md) (t : St) : Prop where
  core : NvC t
  en : (m = .behind ∨ m = .wholePart ∨ m = .digits ∨ m = .fraction ∨ m = .power) → t.ends = true
  ec : m = .encoding → t.begun ≠ [] ∧ t.begun.length < rch t.begun
def NR : Rs → Prop
  | (some m, u) => Nv m u
  | (none, u) => NvC u
theorem nr_no {t : St} (hc : NvC t) : NR (no t) := hc
theorem nr_go {t : St} (hc : NvC t) (m : Md) (h : ¬ (m = .behind ∨ m = .wholePart ∨ m = .digits ∨ m = .fraction ∨ m = .power)) (h2 : m ≠ .encoding) : NR (go m t) :=
  ⟨hc, fun e => absurd e h, fun e => absurd e h2⟩
theorem nr_may {t : St} (hc : NvC t) (m : Md) (h2 : m ≠ .encoding) : NR (mayE m t) := ⟨⟨hc.wl, hc.wn⟩, fun _ => rfl, fun e => absurd e h2⟩
theorem nr_closed {t : St} (hc : NvC t) : NR (closed t) := ⟨⟨hc.wl, hc.wn⟩, fun _ => rfl, nofun⟩
theorem nr_opened {t : St} (hc : NvC t) (c : Int) (m : Md) (h : ¬ (m = .behind ∨ m = .wholePart ∨ m = .digits ∨ m = .fraction ∨ m = .power)) (h2 : m ≠ .encoding) : NR (opened c m t) := by
  unfold opened
  split
  · exact ⟨hc.wl, hc.wn⟩
  · exact ⟨⟨hc.wl, hc.wn⟩, fun e => absurd e h, fun e => absurd e h2⟩
theorem nr_word {t : St} (hc : NvC t) (l : List Int) (h : ∀ c ∈ l, c = 117 ∨ c = 108 ∨ c = 114 ∨ c = 101 ∨ c = 97 ∨ c = 115) (hl : l.length ≤ 4) : NR (go .letter { t with word := l }) :=
  ⟨⟨h, hl⟩, fun e => absurd e (by decide), nofun⟩
theorem nr_quoted {t : St} (hc : NvC t) (k : Bool) : NR (quotedB k t) := ⟨⟨hc.wl, hc.wn⟩, fun e => absurd e (by decide), nofun⟩
theorem nr_more {t : St} (hc : NvC t) (n : Int) (k : Bool) : NR (moreB n k t) := ⟨⟨hc.wl, hc.wn⟩, fun e => absurd e (by decide), nofun⟩
theorem nr_behind {t : St} (hc : NvC t) (b : Int) : NR (behindB b t) := by
  unfold behindB
  repeat' split
  all_goals first | exact nr_no hc | exact nr_closed hc | exact nr_go hc _ (by decide) nofun | exact nr_may hc _ nofun | exact nr_quoted hc _ | exact nr_more hc _ _ | exact nr_opened hc _ _ (by decide) nofun
theorem nr_minus {t : St} (hc : NvC t) (b : Int) : NR (minusB b t) := by
  unfold minusB
  repeat' split
  all_goals first | exact nr_no hc | exact nr_closed hc | exact nr_go hc _ (by decide) nofun | exact nr_may hc _ nofun | exact nr_quoted hc _ | exact nr_more hc _ _ | exact nr_opened hc _ _ (by decide) nofun
theorem nr_number {t : St} (hc : NvC t) (b : Int) : NR (numberB b t) := by
  unfold numberB
  repeat' split
  all_goals first | exact nr_no hc | exact nr_closed hc | exact nr_go hc _ (by decide) nofun | exact nr_may hc _ nofun | exact nr_quoted hc _ | exact nr_more hc _ _ | exact nr_opened hc _ _ (by decide) nofun | exact nr_minus hc b
theorem nr_named {t : St} (hc : NvC t) (b : Int) : NR (namedB b t) := by
  unfold namedB
  repeat' split
  all_goals first | exact nr_no hc | exact nr_word hc _ (fun x hx => by simp at hx; omega) (by simp)
theorem nr_value {t : St} (hc : NvC t) (b : Int) : NR (valueB b t) := by
  unfold valueB
  repeat' split
  all_goals first | exact nr_no hc | exact nr_closed hc | exact nr_go hc _ (by decide) nofun | exact nr_may hc _ nofun | exact nr_quoted hc _ | exact nr_more hc _ _ | exact nr_opened hc _ _ (by decide) nofun | exact nr_number hc b | exact nr_named hc b
theorem nr_letter {t : St} (hc : NvC t) (b : Int) : NR (letterB b t) := by
  unfold letterB
  split
  · split
    · exact ⟨⟨fun x hx => hc.wl x (List.mem_of_mem_tail hx), by have := hc.wn; simp; omega⟩, fun _ => rfl, nofun⟩
    · exact nr_word hc _ (fun x hx => hc.wl x (List.mem_of_mem_tail hx)) (by have := hc.wn; simp; omega)
  · exact nr_no hc
theorem nr_firstElement {t : St} (hc : NvC t) (b : Int) : NR (firstElementB b t) := by
  unfold firstElementB
  repeat' split
  all_goals first | exact nr_no hc | exact nr_closed hc | exact nr_go hc _ (by decide) nofun | exact nr_may hc _ nofun | exact nr_quoted hc _ | exact nr_more hc _ _ | exact nr_opened hc _ _ (by decide) nofun | exact nr_value hc b
theorem nr_key {t : St} (hc : NvC t) (b : Int) : NR (keyB b t) := by
  unfold keyB
  repeat' split
  all_goals first | exact nr_no hc | exact nr_closed hc | exact nr_go hc _ (by decide) nofun | exact nr_may hc _ nofun | exact nr_quoted hc _ | exact nr_more hc _ _ | exact nr_opened hc _ _ (by decide) nofun
theorem nr_firstKey {t : St} (hc : NvC t) (b : Int) : NR (firstKeyB b t) := by
  unfold firstKeyB
  repeat' split
  all_goals first | exact nr_no hc | exact nr_closed hc | exact nr_go hc _ (by decide) nofun | exact nr_may hc _ nofun | exact nr_quoted hc _ | exact nr_more hc _ _ | exact nr_opened hc _ _ (by decide) nofun | exact nr_key hc b
theorem nr_colon {t : St} (hc : NvC t) (b : Int) : NR (colonB b t) := by
  unfold colonB
  repeat' split
  all_goals first | exact nr_no hc | exact nr_closed hc | exact nr_go hc _ (by decide) nofun | exact nr_may hc _ nofun | exact nr_quoted hc _ | exact nr_more hc _ _ | exact nr_opened hc _ _ (by decide) nofun
theorem nr_decimals {t : St} (hc : NvC t) (b : Int) : NR (decimalsB b t) := by
  unfold decimalsB
  repeat' split
  all_goals first | exact nr_no hc | exact nr_closed hc | exact nr_go hc _ (by decide) nofun | exact nr_may hc _ nofun | exact nr_quoted hc _ | exact nr_more hc _ _ | exact nr_opened hc _ _ (by decide) nofun | exact nr_behind hc b
theorem nr_whole {t : St} (hc : NvC t) (b : Int) : NR (wholeB b t) := by
  unfold wholeB
  repeat' split
  all_goals first | exact nr_no hc | exact nr_closed hc | exact nr_go hc _ (by decide) nofun | exact nr_may hc _ nofun | exact nr_quoted hc _ | exact nr_more hc _ _ | exact nr_opened hc _ _ (by decide) nofun | exact nr_decimals hc b
theorem nr_digits {t : St} (hc : NvC t) (b : Int) : NR (digitsB b t) := by
  unfold digitsB
  repeat' split
  all_goals first | exact nr_no hc | exact nr_closed hc | exact nr_go hc _ (by decide) nofun | exact nr_may hc _ nofun | exact nr_quoted hc _ | exact nr_more hc _ _ | exact nr_opened hc _ _ (by decide) nofun | exact nr_whole hc b
theorem nr_point {t : St} (hc : NvC t) (b : Int) : NR (pointB b t) := by
  unfold pointB
  repeat' split
  all_goals first | exact nr_no hc | exact nr_closed hc | exact nr_go hc _ (by decide) nofun | exact nr_may hc _ nofun | exact nr_quoted hc _ | exact nr_more hc _ _ | exact nr_opened hc _ _ (by decide) nofun
theorem nr_fraction {t : St} (hc : NvC t) (b : Int) : NR (fractionB b t) := by
  unfold fractionB
  repeat' split
  all_goals first | exact nr_no hc | exact nr_closed hc | exact nr_go hc _ (by decide) nofun | exact nr_may hc _ nofun | exact nr_quoted hc _ | exact nr_more hc _ _ | exact nr_opened hc _ _ (by decide) nofun | exact nr_decimals hc b
theorem nr_sign {t : St} (hc : NvC t) (b : Int) : NR (signB b t) := by
  unfold signB
  repeat' split
  all_goals first | exact nr_no hc | exact nr_closed hc | exact nr_go hc _ (by decide) nofun | exact nr_may hc _ nofun | exact nr_quoted hc _ | exact nr_more hc _ _ | exact nr_opened hc _ _ (by decide) nofun
theorem nr_exponent {t : St} (hc : NvC t) (b : Int) : NR (exponentB b t) := by
  unfold exponentB
  repeat' split
  all_goals first | exact nr_no hc | exact nr_closed hc | exact nr_go hc _ (by decide) nofun | exact nr_may hc _ nofun | exact nr_quoted hc _ | exact nr_more hc _ _ | exact nr_opened hc _ _ (by decide) nofun | exact nr_sign hc b
theorem nr_power {t : St} (hc : NvC t) (b : Int) : NR (powerB b t) := by
  unfold powerB
  repeat' split
  all_goals first | exact nr_no hc | exact nr_closed hc | exact nr_go hc _ (by decide) nofun | exact nr_may hc _ nofun | exact nr_quoted hc _ | exact nr_more hc _ _ | exact nr_opened hc _ _ (by decide) nofun | exact nr_behind hc b
theorem nr_encoding {t : St} (hc : NvC t) (b : Int) : NR (encodingB b t) := by
  unfold encodingB
  split
  · exact nr_no hc
  · split
    · rename_i g
      exact ⟨⟨hc.wl, hc.wn⟩, fun e => absurd e (by decide), fun _ => ⟨by simp, by simpa using g⟩⟩
    · exact ⟨⟨hc.wl, hc.wn⟩, fun e => absurd e (by decide), nofun⟩
theorem nr_piece {t : St} (hc : NvC t) (b : Int) : NR (pieceB b t) := by
  unfold pieceB unquotedB
  repeat' split
  all_goals first | exact nr_no hc | exact nr_closed hc | exact nr_go hc _ (by decide) nofun | exact nr_may hc _ nofun | exact nr_quoted hc _ | exact nr_more hc _ _ | exact nr_opened hc _ _ (by decide) nofun | exact nr_encoding hc b
theorem nr_backslash {t : St} (hc : NvC t) (b : Int) : NR (backslashB b t) := by
  unfold backslashB
  repeat' split
  all_goals first | exact nr_no hc | exact nr_closed hc | exact nr_go hc _ (by decide) nofun | exact nr_may hc _ nofun | exact nr_quoted hc _ | exact nr_more hc _ _ | exact nr_opened hc _ _ (by decide) nofun
theorem nr_unit {t : St} (hc : NvC t) (b : Int) : NR (unitB b t) := by
  unfold unitB
  repeat' split
  all_goals first | exact nr_no hc | exact nr_closed hc | exact nr_go hc _ (by decide) nofun | exact nr_may hc _ nofun | exact nr_quoted hc _ | exact nr_more hc _ _ | exact nr_opened hc _ _ (by decide) nofun
theorem nr_behindD {t : St} (hc : NvC t) (b : Int) : NR (behindDB b t) := by
  unfold behindDB
  repeat' split
  all_goals first | exact nr_no hc | exact nr_closed hc | exact nr_go hc _ (by decide) nofun | exact nr_may hc _ nofun | exact nr_quoted hc _ | exact nr_more hc _ _ | exact nr_opened hc _ _ (by decide) nofun
theorem nr_digitsLeft {t : St} (hc : NvC t) (b : Int) : NR (digitsLeftB b t) := by
  have c1 : NvC { t with left := t.left - 1 } := ⟨hc.wl, hc.wn⟩
  unfold digitsLeftB
  repeat' split
  all_goals first | exact nr_no hc | exact nr_go c1 _ (by decide) nofun
theorem nr_secondHalf {t : St} (hc : NvC t) (b : Int) : NR (secondHalfB b t) := by
  unfold secondHalfB
  repeat' split
  all_goals first | exact nr_no hc | exact nr_closed hc | exact nr_go hc _ (by decide) nofun | exact nr_may hc _ nofun | exact nr_quoted hc _ | exact nr_more hc _ _ | exact nr_opened hc _ _ (by decide) nofun
theorem nr_secondU {t : St} (hc : NvC t) (b : Int) : NR (secondUB b t) := by
  unfold secondUB
  repeat' split
  all_goals first | exact nr_no hc | exact nr_closed hc | exact nr_go hc _ (by decide) nofun | exact nr_may hc _ nofun | exact nr_quoted hc _ | exact nr_more hc _ _ | exact nr_opened hc _ _ (by decide) nofun
theorem nr_secondD {t : St} (hc : NvC t) (b : Int) : NR (secondDB b t) := by
  unfold secondDB
  repeat' split
  all_goals first | exact nr_no hc | exact nr_closed hc | exact nr_go hc _ (by decide) nofun | exact nr_may hc _ nofun | exact nr_quoted hc _ | exact nr_more hc _ _ | exact nr_opened hc _ _ (by decide) nofun
theorem nr_secondSpan {t : St} (hc : NvC t) (b : Int) : NR (secondSpanB b t) := by
  unfold secondSpanB
  repeat' split
  all_goals first | exact nr_no hc | exact nr_closed hc | exact nr_go hc _ (by decide) nofun | exact nr_may hc _ nofun | exact nr_quoted hc _ | exact nr_more hc _ _ | exact nr_opened hc _ _ (by decide) nofun
theorem nr_step {t : St} (hc : NvC t) (m : Md) (b : Int) : NR (stepB m b t) := by
  cases m with
  | value => exact nr_value hc b
  | firstElement => exact nr_firstElement hc b
  | firstKey => exact nr_firstKey hc b
  | key => exact nr_key hc b
  | colon => exact nr_colon hc b
  | behind => exact nr_behind hc b
  | letter => exact nr_letter hc b
  | minus => exact nr_minus hc b
  | wholePart => exact nr_whole hc b
  | digits => exact nr_digits hc b
  | point => exact nr_point hc b
  | fraction => exact nr_fraction hc b
  | exponent => exact nr_exponent hc b
  | sign => exact nr_sign hc b
  | power => exact nr_power hc b
  | piece => exact nr_piece hc b
  | encoding => exact nr_encoding hc b
  | backslash => exact nr_backslash hc b
  | unit => exact nr_unit hc b
  | behindD => exact nr_behindD hc b
  | digitsLeft => exact nr_digitsLeft hc b
  | secondHalf => exact nr_secondHalf hc b
  | secondU => exact nr_secondU hc b
  | secondD => exact nr_secondD hc b
  | secondSpan => exact nr_secondSpan hc b
/-- a scanner that can be gone on with -/
structure Liv (s : Sc) : Prop where
  bad : s.st.bad = 0
  good : Good s.md s.st
  nv : Nv s.md s.st
theorem liv_take {s : Sc} (h : Liv s) (b : Int) (h0 : 0 ≤ b) (h1 : b < 256) (ha : (takeB b s).size = s.size + 1) : Liv (takeB b s) := by
  have hg := gr_step (good_false h.good) b h0 h1
  have hn := nr_step (t := { s.st with ends := false }) ⟨h.nv.core.wl, h.nv.core.wn⟩ s.md b
  have hb := h.bad
  unfold takeB at ha ⊢
  revert hg hn ha
  rcases stepB s.md b { s.st with ends := false } with ⟨_ | m, t⟩
  · intro ha _ _; simp at ha
  · intro _ hg hn; exact ⟨hg.2.trans hb, hg.1, hn⟩
theorem liv0 : Liv sc0 := ⟨rfl, good0.ok rfl, ⟨nofun, by simp [sc0]⟩, fun e => absurd e (by decide), nofun⟩
theorem liv_write {s : Sc} (h : Liv s) (l : List Int) (hl : uByt l) (hb : (writeB l s).st.bad = 0) : Liv (writeB l s) := by
  induction l generalizing s with
  | nil => exact h
  | cons b l ih =>
    rw [writeB, if_pos h.bad] at hb ⊢
    have hs := take_size b s
    have hbt : (takeB b s).st.bad = 0 := by
      rcases Nat.eq_zero_or_pos (takeB b s).st.bad with g | g
      · exact g
      · rw [writeB_bad (by omega)] at hb; exact hb
    exact ih (liv_take h b (hl b (by simp)).1 (hl b (by simp)).2 (hs.2.2 hbt)) (fun x hx => hl x (by simp [hx])) hb
/-- what is good of a text is good by itself -/
theorem write_good (l : List Int) (hl : uByt l) (s : Sc) (hG : GoodS s) (h : s.st.bad = 0) : (writeB (l.take ((writeB l s).size - s.size)) s).st.bad = 0 := by
  induction l generalizing s with
  | nil => simpa [writeB] using h
  | cons b l ih =>
    rw [writeB, if_pos h]
    have hs := take_size b s
    have b0 := (hl b (by simp)).1
    have b1 := (hl b (by simp)).2
    have hg := gr_step (good_false (hG.ok h)) b b0 b1
    by_cases hb : (takeB b s).st.bad = 0
    · have hw := write_size l (takeB b s)
      have e := hs.2.2 hb
      obtain ⟨n, hn⟩ : ∃ n, (writeB l (takeB b s)).size - s.size = n + 1 := ⟨(writeB l (takeB b s)).size - s.size - 1, by omega⟩
      rw [hn, List.take_succ_cons, writeB, if_pos h]
      have := ih (fun x hx => hl x (by simp [hx])) (takeB b s) (good_take hG h b b0 b1) hb
      rw [show (writeB l (takeB b s)).size - (takeB b s).size = n by omega] at this
      exact this
    · rw [writeB_bad hb]
      have hz : (takeB b s).size - s.size = 0 := by
        unfold takeB at hb ⊢
        revert hb hg
        rcases stepB s.md b { s.st with ends := false } with ⟨_ | m, t⟩
        · intro _ _; simp
        · intro hg hb
          exfalso
          exact hb (hg.2.trans h)
      rw [hz]; simpa [writeB] using h

end Go.Proofs.YtefmlajndillbaaDoor
