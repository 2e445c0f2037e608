/- layer 16, plain: the scanner as a machine: what the next byte may be -/
import Derived.Test.YtefmlajndillbaaGreatDoorUFirst
namespace Go.Proofs.YtefmlajndillbaaGreatDoor
open Go.RowKit
set_option linter.unusedVariables false

/-- what may come: the scanner's steps -/
inductive Md
  | value | firstElement | firstKey | key | colon | behind | letter
  | minus | wholePart | digits | point | fraction | exponent | sign | power
  | piece | encoding | backslash | unit | behindD | digitsLeft | secondHalf | secondU | secondD | secondSpan
  deriving DecidableEq

/-- the scanner's state but for its step and its size -/
structure St where
  opn : List Int
  ends : Bool
  bad : Nat
  word : List Int
  isKey : Bool
  begun : List Int
  left : Int
  half : Bool

abbrev Rs := Option Md × St
def blankB (b : Int) : Bool := b == 32 || b == 10 || b == 13 || b == 9
def digB (b : Int) : Bool := decide (48 ≤ b) && decide (b ≤ 57)
def jhxB (b : Int) : Bool := digB b || (decide (97 ≤ b) && decide (b ≤ 102)) || (decide (65 ≤ b) && decide (b ≤ 70))
def no (s : St) : Rs := (none, s)
def go (m : Md) (s : St) : Rs := (some m, s)
def mayE (m : Md) (s : St) : Rs := (some m, { s with ends := true })
def opened (c : Int) (m : Md) (s : St) : Rs :=
  if s.opn.length = 128 then (none, { s with bad := 5 }) else (some m, { s with opn := s.opn ++ [c] })
def closed (s : St) : Rs := mayE .behind { s with opn := s.opn.dropLast }
def behindB (b : Int) (s : St) : Rs :=
  if blankB b then mayE .behind s
  else if s.opn = [] then no s
  else if b = s.opn.getLastD 0 then closed s
  else if b = 44 then (if s.opn.getLastD 0 = 93 then go .value s else go .key s)
  else no s
def minusB (b : Int) (s : St) : Rs :=
  if b = 48 then mayE .wholePart s else if digB b then mayE .digits s else no s
def numberB (b : Int) (s : St) : Rs := if b = 45 then go .minus s else minusB b s
def namedB (b : Int) (s : St) : Rs :=
  if b = 110 then go .letter { s with word := [117, 108, 108] }
  else if b = 116 then go .letter { s with word := [114, 117, 101] }
  else if b = 102 then go .letter { s with word := [97, 108, 115, 101] }
  else no s
def quotedB (k : Bool) (s : St) : Rs := go .piece { s with isKey := k }
def valueB (b : Int) (s : St) : Rs :=
  if blankB b then go .value s
  else if b = 34 then quotedB false s
  else if b = 91 then opened 93 .firstElement s
  else if b = 123 then opened 125 .firstKey s
  else if b = 45 then numberB b s
  else if digB b then numberB b s
  else namedB b s
def letterB (b : Int) (s : St) : Rs :=
  if b = s.word.headD 0 then (if s.word.tail = [] then mayE .behind { s with word := s.word.tail } else go .letter { s with word := s.word.tail })
  else no s
def firstElementB (b : Int) (s : St) : Rs :=
  if blankB b then go .firstElement s else if b = 93 then closed s else valueB b s
def keyB (b : Int) (s : St) : Rs :=
  if blankB b then go .key s else if b = 34 then quotedB true s else no s
def firstKeyB (b : Int) (s : St) : Rs :=
  if blankB b then go .firstKey s else if b = 125 then closed s else keyB b s
def colonB (b : Int) (s : St) : Rs :=
  if blankB b then go .colon s else if b = 58 then go .value s else no s
def decimalsB (b : Int) (s : St) : Rs :=
  if b = 101 ∨ b = 69 then go .exponent s else behindB b s
def wholeB (b : Int) (s : St) : Rs := if b = 46 then go .point s else decimalsB b s
def digitsB (b : Int) (s : St) : Rs := if digB b then mayE .digits s else wholeB b s
def pointB (b : Int) (s : St) : Rs := if digB b then mayE .fraction s else no s
def fractionB (b : Int) (s : St) : Rs := if digB b then mayE .fraction s else decimalsB b s
def signB (b : Int) (s : St) : Rs := if digB b then mayE .power s else no s
def exponentB (b : Int) (s : St) : Rs := if b = 43 ∨ b = 45 then go .sign s else signB b s
def powerB (b : Int) (s : St) : Rs := if digB b then mayE .power s else behindB b s
/-- how far an encoding that begins so reaches -/
def rch (l : List Int) : Nat := max (uFst (l ++ [128, 128, 128]) 0).2 (uFst (l ++ [191, 191, 191]) 0).2
def encodingB (b : Int) (s : St) : Rs :=
  if rch (s.begun ++ [b]) = 0 then no s
  else if s.begun.length + 1 < rch (s.begun ++ [b]) then go .encoding { s with begun := s.begun ++ [b] }
  else go .piece { s with begun := [] }
def unquotedB (s : St) : Rs := if s.isKey then go .colon s else mayE .behind s
def pieceB (b : Int) (s : St) : Rs :=
  if b = 34 then unquotedB s
  else if b = 92 then go .backslash s
  else if b < 32 then no s
  else if b < 128 then go .piece s
  else encodingB b s
/-- the letters that may stand behind a backslash, but u -/
def escB (b : Int) : Bool := b == 34 || b == 92 || b == 47 || b == 98 || b == 102 || b == 110 || b == 114 || b == 116
def backslashB (b : Int) (s : St) : Rs := if b = 117 then go .unit s else if escB b then go .piece s else no s
def moreB (n : Int) (h : Bool) (s : St) : Rs := go .digitsLeft { s with left := n, half := h }
def unitB (b : Int) (s : St) : Rs :=
  if b = 100 ∨ b = 68 then go .behindD s else if jhxB b then moreB 3 false s else no s
def behindDB (b : Int) (s : St) : Rs :=
  if 48 ≤ b ∧ b ≤ 55 then moreB 2 false s
  else if b = 56 ∨ b = 57 ∨ b = 97 ∨ b = 98 ∨ b = 65 ∨ b = 66 then moreB 2 true s
  else no s
def digitsLeftB (b : Int) (s : St) : Rs :=
  if jhxB b then
    (if 0 < s.left - 1 then go .digitsLeft { s with left := s.left - 1 }
     else if s.half then go .secondHalf { s with left := s.left - 1 } else go .piece { s with left := s.left - 1 })
  else no s
def secondHalfB (b : Int) (s : St) : Rs := if b = 92 then go .secondU s else no s
def secondUB (b : Int) (s : St) : Rs := if b = 117 then go .secondD s else no s
def secondDB (b : Int) (s : St) : Rs := if b = 100 ∨ b = 68 then go .secondSpan s else no s
def secondSpanB (b : Int) (s : St) : Rs :=
  if (99 ≤ b ∧ b ≤ 102) ∨ (67 ≤ b ∧ b ≤ 70) then moreB 2 false s else no s
def stepB : Md → Int → St → Rs
  | .value => valueB | .firstElement => firstElementB | .firstKey => firstKeyB | .key => keyB | .colon => colonB
  | .behind => behindB | .letter => letterB | .minus => minusB | .wholePart => wholeB | .digits => digitsB | .point => pointB
  | .fraction => fractionB | .exponent => exponentB | .sign => signB | .power => powerB | .piece => pieceB | .encoding => encodingB
  | .backslash => backslashB | .unit => unitB | .behindD => behindDB | .digitsLeft => digitsLeftB | .secondHalf => secondHalfB
  | .secondU => secondUB | .secondD => secondDB | .secondSpan => secondSpanB

/-- the whole scanner -/
structure Sc where
  md : Md
  size : Nat
  st : St
def sc0 : Sc := ⟨.value, 0, ⟨[], false, 0, [], false, [], 0, false⟩⟩
/-- one byte of a scanner that has told no error -/
def takeB (b : Int) (s : Sc) : Sc :=
  match stepB s.md b { s.st with ends := false } with
  | (none, t) => ⟨s.md, s.size, { t with bad := if t.bad = 0 then 3 else t.bad }⟩
  | (some m, t) => ⟨m, s.size + 1, t⟩
/-- bytes, one by one, up to an error -/
def writeB : List Int → Sc → Sc
  | [], s => s
  | b :: l, s => if s.st.bad = 0 then writeB l (takeB b s) else s
/-- what makes no step panic -/
structure Core (t : St) : Prop where
  len : t.opn.length ≤ 128
  brk : ∀ c ∈ t.opn, c = 93 ∨ c = 125
  bg : t.begun.length ≤ 3
  bb : uByt t.begun
  wb : uByt t.word
  wl : t.word.length ≤ 8
  lf : 0 ≤ t.left ∧ t.left ≤ 3
  bd : t.bad = 0 ∨ t.bad = 3 ∨ t.bad = 5
structure Good (m : Md) (t : St) : Prop where
  core : Core t
  wd : m = .letter → t.word ≠ []
  op : m = .firstElement ∨ m = .firstKey → t.opn ≠ []
  lt : m = .digitsLeft → 0 < t.left
/-- a step leaves it so -/
def GR (t : St) : Rs → Prop
  | (some m, u) => Good m u ∧ u.bad = t.bad
  | (none, u) => u = t ∨ u = { t with bad := 5 }
theorem gr_no (t : St) : GR t (no t) := Or.inl rfl
theorem gr_go {t : St} (hc : Core t) (m : Md) (h1 : m ≠ .letter) (h2 : m ≠ .firstElement) (h3 : m ≠ .firstKey) (h4 : m ≠ .digitsLeft) : GR t (go m t) :=
  ⟨⟨hc, fun e => absurd e h1, fun e => e.elim (fun e => absurd e h2) (fun e => absurd e h3), fun e => absurd e h4⟩, rfl⟩
theorem gr_may {t : St} (hc : Core t) (m : Md) (h1 : m ≠ .letter) (h2 : m ≠ .firstElement) (h3 : m ≠ .firstKey) (h4 : m ≠ .digitsLeft) : GR t (mayE m t) :=
  ⟨⟨⟨hc.len, hc.brk, hc.bg, hc.bb, hc.wb, hc.wl, hc.lf, hc.bd⟩, fun e => absurd e h1, fun e => e.elim (fun e => absurd e h2) (fun e => absurd e h3), fun e => absurd e h4⟩, rfl⟩
theorem gr_closed {t : St} (hc : Core t) : GR t (closed t) :=
  ⟨⟨⟨by have := hc.len; simp; omega, fun c h => hc.brk c (List.dropLast_subset _ h), hc.bg, hc.bb, hc.wb, hc.wl, hc.lf, hc.bd⟩, nofun, nofun, nofun⟩, rfl⟩
theorem gr_opened {t : St} (hc : Core t) (c : Int) (m : Md) (h : c = 93 ∨ c = 125) (h1 : m ≠ .letter) (h4 : m ≠ .digitsLeft) : GR t (opened c m t) := by
  unfold opened
  split
  · exact Or.inr rfl
  · rename_i hn
    refine ⟨⟨⟨by have := hc.len; simp; omega, fun d hd => ?_, hc.bg, hc.bb, hc.wb, hc.wl, hc.lf, hc.bd⟩, fun e => absurd e h1, fun _ => by simp, fun e => absurd e h4⟩, rfl⟩
    rcases List.mem_append.1 hd with g | g
    · exact hc.brk d g
    · simp at g; rw [g]; exact h
theorem gr_behind {t : St} (hc : Core t) (b : Int) : GR t (behindB b t) := by
  unfold behindB
  repeat' split
  all_goals first | exact gr_no t | exact gr_closed hc | exact gr_go hc _ nofun nofun nofun nofun | exact gr_may hc _ nofun nofun nofun nofun
theorem gr_minus {t : St} (hc : Core t) (b : Int) : GR t (minusB b t) := by
  unfold minusB
  repeat' split
  all_goals first | exact gr_no t | exact gr_go hc _ nofun nofun nofun nofun | exact gr_may hc _ nofun nofun nofun nofun
theorem gr_number {t : St} (hc : Core t) (b : Int) : GR t (numberB b t) := by
  unfold numberB
  split
  · exact gr_go hc _ nofun nofun nofun nofun
  · exact gr_minus hc b
theorem gr_word {t : St} (hc : Core t) (l : List Int) (h : uByt l) (hl : l.length ≤ 8) (hn : l ≠ []) : GR t (go .letter { t with word := l }) :=
  ⟨⟨⟨hc.len, hc.brk, hc.bg, hc.bb, h, hl, hc.lf, hc.bd⟩, fun _ => hn, nofun, nofun⟩, rfl⟩
theorem gr_named {t : St} (hc : Core t) (b : Int) : GR t (namedB b t) := by
  unfold namedB
  repeat' split
  all_goals first | exact gr_no t | exact gr_word hc _ (fun x hx => by simp at hx; omega) (by simp) (by simp)
theorem gr_quoted {t : St} (hc : Core t) (k : Bool) : GR t (quotedB k t) :=
  ⟨⟨⟨hc.len, hc.brk, hc.bg, hc.bb, hc.wb, hc.wl, hc.lf, hc.bd⟩, nofun, nofun, nofun⟩, rfl⟩
theorem gr_value {t : St} (hc : Core t) (b : Int) : GR t (valueB b t) := by
  unfold valueB
  repeat' split
  all_goals first | exact gr_go hc _ nofun nofun nofun nofun | exact gr_quoted hc _ | exact gr_opened hc _ _ (by simp) nofun nofun | exact gr_number hc b | exact gr_named hc b
theorem gr_letter {t : St} (hc : Core t) (b : Int) : GR t (letterB b t) := by
  unfold letterB
  split
  · split
    · exact ⟨⟨⟨hc.len, hc.brk, hc.bg, hc.bb, fun x hx => hc.wb x (List.mem_of_mem_tail hx), by have := hc.wl; simp; omega, hc.lf, hc.bd⟩, nofun, nofun, nofun⟩, rfl⟩
    · rename_i h; exact gr_word hc _ (fun x hx => hc.wb x (List.mem_of_mem_tail hx)) (by have := hc.wl; simp; omega) h
  · exact gr_no t
theorem gr_firstElement {t : St} (hc : Core t) (hn : t.opn ≠ []) (b : Int) : GR t (firstElementB b t) := by
  unfold firstElementB
  repeat' split
  · exact ⟨⟨hc, nofun, fun _ => hn, nofun⟩, rfl⟩
  · exact gr_closed hc
  · exact gr_value hc b
theorem gr_key {t : St} (hc : Core t) (b : Int) : GR t (keyB b t) := by
  unfold keyB
  repeat' split
  all_goals first | exact gr_no t | exact gr_go hc _ nofun nofun nofun nofun | exact gr_quoted hc _
theorem gr_firstKey {t : St} (hc : Core t) (hn : t.opn ≠ []) (b : Int) : GR t (firstKeyB b t) := by
  unfold firstKeyB
  repeat' split
  · exact ⟨⟨hc, nofun, fun _ => hn, nofun⟩, rfl⟩
  · exact gr_closed hc
  · exact gr_key hc b
theorem gr_colon {t : St} (hc : Core t) (b : Int) : GR t (colonB b t) := by
  unfold colonB
  repeat' split
  all_goals first | exact gr_no t | exact gr_go hc _ nofun nofun nofun nofun
theorem gr_decimals {t : St} (hc : Core t) (b : Int) : GR t (decimalsB b t) := by
  unfold decimalsB
  split
  · exact gr_go hc _ nofun nofun nofun nofun
  · exact gr_behind hc b
theorem gr_whole {t : St} (hc : Core t) (b : Int) : GR t (wholeB b t) := by
  unfold wholeB
  split
  · exact gr_go hc _ nofun nofun nofun nofun
  · exact gr_decimals hc b
theorem gr_digits {t : St} (hc : Core t) (b : Int) : GR t (digitsB b t) := by
  unfold digitsB
  split
  · exact gr_may hc _ nofun nofun nofun nofun
  · exact gr_whole hc b
theorem gr_point {t : St} (hc : Core t) (b : Int) : GR t (pointB b t) := by
  unfold pointB
  split
  · exact gr_may hc _ nofun nofun nofun nofun
  · exact gr_no t
theorem gr_fraction {t : St} (hc : Core t) (b : Int) : GR t (fractionB b t) := by
  unfold fractionB
  split
  · exact gr_may hc _ nofun nofun nofun nofun
  · exact gr_decimals hc b
theorem gr_sign {t : St} (hc : Core t) (b : Int) : GR t (signB b t) := by
  unfold signB
  split
  · exact gr_may hc _ nofun nofun nofun nofun
  · exact gr_no t
theorem gr_exponent {t : St} (hc : Core t) (b : Int) : GR t (exponentB b t) := by
  unfold exponentB
  split
  · exact gr_go hc _ nofun nofun nofun nofun
  · exact gr_sign hc b
theorem gr_power {t : St} (hc : Core t) (b : Int) : GR t (powerB b t) := by
  unfold powerB
  split
  · exact gr_may hc _ nofun nofun nofun nofun
  · exact gr_behind hc b
theorem uLead_four (a : Int) : (uLead a).2 ≤ 4 := by
  unfold uLead
  repeat' split
  all_goals simp
theorem uDec_four (l : List Int) : (uDec l).2 ≤ 4 := by
  unfold uDec
  repeat' split
  all_goals first | exact uLead_four _ | simp
theorem rch_four (l : List Int) : rch l ≤ 4 := by
  have h : ∀ es, (uFst es 0).2 ≤ 4 := fun es => by
    unfold uFst
    split
    · exact uDec_four _
    · simp
  have h1 := h (l ++ [128, 128, 128])
  have h2 := h (l ++ [191, 191, 191])
  unfold rch
  omega
theorem gr_encoding {t : St} (hc : Core t) (b : Int) (h0 : 0 ≤ b) (h1 : b < 256) : GR t (encodingB b t) := by
  unfold encodingB
  split
  · exact gr_no t
  · split
    · rename_i g
      have := rch_four (t.begun ++ [b])
      refine ⟨⟨⟨hc.len, hc.brk, by simp; omega, fun x hx => ?_, hc.wb, hc.wl, hc.lf, hc.bd⟩, nofun, nofun, nofun⟩, rfl⟩
      rcases List.mem_append.1 hx with k | k
      · exact hc.bb x k
      · simp at k; omega
    · exact ⟨⟨⟨hc.len, hc.brk, by simp, fun x hx => absurd hx (by simp), hc.wb, hc.wl, hc.lf, hc.bd⟩, nofun, nofun, nofun⟩, rfl⟩
theorem gr_piece {t : St} (hc : Core t) (b : Int) (h0 : 0 ≤ b) (h1 : b < 256) : GR t (pieceB b t) := by
  unfold pieceB unquotedB
  repeat' split
  all_goals first | exact gr_no t | exact gr_go hc _ nofun nofun nofun nofun | exact gr_may hc _ nofun nofun nofun nofun | exact gr_encoding hc b h0 h1
theorem gr_more {t : St} (hc : Core t) (n : Int) (k : Bool) (h : n = 2 ∨ n = 3) : GR t (moreB n k t) :=
  ⟨⟨⟨hc.len, hc.brk, hc.bg, hc.bb, hc.wb, hc.wl, by simp; omega, hc.bd⟩, nofun, nofun, fun _ => by simp; omega⟩, rfl⟩
theorem gr_digitsLeft {t : St} (hc : Core t) (h : 0 < t.left) (b : Int) : GR t (digitsLeftB b t) := by
  have c1 : Core { t with left := t.left - 1 } := ⟨hc.len, hc.brk, hc.bg, hc.bb, hc.wb, hc.wl, by have := hc.lf; simp; omega, hc.bd⟩
  unfold digitsLeftB
  repeat' split
  · rename_i g; exact ⟨⟨c1, nofun, nofun, fun _ => g⟩, rfl⟩
  · exact ⟨⟨c1, nofun, nofun, nofun⟩, rfl⟩
  · exact ⟨⟨c1, nofun, nofun, nofun⟩, rfl⟩
  · exact gr_no t
theorem gr_backslash {t : St} (hc : Core t) (b : Int) : GR t (backslashB b t) := by
  unfold backslashB
  repeat' split
  all_goals first | exact gr_no t | exact gr_go hc _ nofun nofun nofun nofun
theorem gr_unit {t : St} (hc : Core t) (b : Int) : GR t (unitB b t) := by
  unfold unitB
  repeat' split
  all_goals first | exact gr_no t | exact gr_go hc _ nofun nofun nofun nofun | exact gr_more hc _ _ (by simp)
theorem gr_behindD {t : St} (hc : Core t) (b : Int) : GR t (behindDB b t) := by
  unfold behindDB
  repeat' split
  all_goals first | exact gr_no t | exact gr_more hc _ _ (by simp)
theorem gr_step {m : Md} {t : St} (h : Good m t) (b : Int) (h0 : 0 ≤ b) (h1 : b < 256) : GR t (stepB m b t) := by
  have hc := h.core
  cases m with
  | value => exact gr_value hc b
  | firstElement => exact gr_firstElement hc (h.op (Or.inl rfl)) b
  | firstKey => exact gr_firstKey hc (h.op (Or.inr rfl)) b
  | key => exact gr_key hc b
  | colon => exact gr_colon hc b
  | behind => exact gr_behind hc b
  | letter => exact gr_letter hc b
  | minus => exact gr_minus hc b
  | wholePart => exact gr_whole hc b
  | digits => exact gr_digits hc b
  | point => exact gr_point hc b
  | fraction => exact gr_fraction hc b
  | exponent => exact gr_exponent hc b
  | sign => exact gr_sign hc b
  | power => exact gr_power hc b
  | piece => exact gr_piece hc b h0 h1
  | encoding => exact gr_encoding hc b h0 h1
  | backslash => exact gr_backslash hc b
  | unit => exact gr_unit hc b
  | behindD => exact gr_behindD hc b
  | digitsLeft => exact gr_digitsLeft hc (h.lt rfl) b
  | secondHalf => show GR t (secondHalfB b t); unfold secondHalfB; split; exact gr_go hc _ nofun nofun nofun nofun; exact gr_no t
  | secondU => show GR t (secondUB b t); unfold secondUB; split; exact gr_go hc _ nofun nofun nofun nofun; exact gr_no t
  | secondD => show GR t (secondDB b t); unfold secondDB; split; exact gr_go hc _ nofun nofun nofun nofun; exact gr_no t
  | secondSpan => show GR t (secondSpanB b t); unfold secondSpanB; split; exact gr_more hc _ _ (by simp); exact gr_no t
/-- a scanner that can be written to, or has told an error -/
structure GoodS (s : Sc) : Prop where
  ok : s.st.bad = 0 → Good s.md s.st
  bd : s.st.bad = 0 ∨ s.st.bad = 3 ∨ s.st.bad = 5
theorem good0 : GoodS sc0 := ⟨fun _ => ⟨⟨by simp [sc0], nofun, by simp [sc0], nofun, nofun, by simp [sc0], by simp [sc0], Or.inl rfl⟩, nofun, nofun, nofun⟩, Or.inl rfl⟩
theorem good_false {m : Md} {t : St} (h : Good m t) : Good m { t with ends := false } :=
  ⟨⟨h.core.len, h.core.brk, h.core.bg, h.core.bb, h.core.wb, h.core.wl, h.core.lf, h.core.bd⟩, h.wd, h.op, h.lt⟩
theorem good_take {s : Sc} (h : GoodS s) (hb : s.st.bad = 0) (b : Int) (h0 : 0 ≤ b) (h1 : b < 256) : GoodS (takeB b s) := by
  have hg := gr_step (good_false (h.ok hb)) b h0 h1
  unfold takeB
  revert hg
  rcases stepB s.md b { s.st with ends := false } with ⟨_ | m, t⟩
  · intro hg
    rcases hg with e | e
    · subst e; exact ⟨fun e => by simp [hb] at e, by simp [hb]⟩
    · subst e; exact ⟨fun e => by simp at e, by simp⟩
  · intro hg
    exact ⟨fun _ => hg.1, Or.inl (hg.2.trans hb)⟩
theorem good_write {s : Sc} (h : GoodS s) (l : List Int) (hl : uByt l) : GoodS (writeB l s) := by
  induction l generalizing s with
  | nil => exact h
  | cons b l ih =>
    rw [writeB]
    split
    · rename_i hb
      exact ih (good_take h hb b (hl b (by simp)).1 (hl b (by simp)).2) (fun x hx => hl x (by simp [hx]))
    · exact h
theorem writeB_bad {l : List Int} {s : Sc} (h : s.st.bad ≠ 0) : writeB l s = s := by
  cases l with
  | nil => rfl
  | cons b l => rw [writeB, if_neg h]
/-- how many bytes were good -/
theorem take_size (b : Int) (s : Sc) : (takeB b s).size ≤ s.size + 1 ∧ s.size ≤ (takeB b s).size ∧ ((takeB b s).st.bad = 0 → (takeB b s).size = s.size + 1) := by
  unfold takeB
  split
  · simp only []; refine ⟨by omega, by omega, fun e => ?_⟩; split at e <;> omega
  · simp
theorem write_size (l : List Int) (s : Sc) : (writeB l s).size ≤ s.size + l.length ∧ s.size ≤ (writeB l s).size ∧ ((writeB l s).st.bad = 0 → (writeB l s).size = s.size + l.length) := by
  induction l generalizing s with
  | nil => simp [writeB]
  | cons b l ih =>
    rw [writeB]
    split
    · have h1 := take_size b s
      have h2 := ih (takeB b s)
      refine ⟨by simp; omega, by omega, fun e => ?_⟩
      have h3 := h2.2.2 e
      have h4 : (takeB b s).st.bad = 0 := by
        rcases Nat.eq_zero_or_pos (takeB b s).st.bad with g | g
        · exact g
        · rw [writeB_bad (by omega)] at e; exact e
      have h5 := h1.2.2 h4
      simp; omega
    · rename_i hb
      exact ⟨by simp, Nat.le_refl _, fun e => absurd e hb⟩

theorem writeB_append (l k : List Int) (s : Sc) : writeB (l ++ k) s = writeB k (writeB l s) := by
  induction l generalizing s with
  | nil => rfl
  | cons b l ih =>
    by_cases h : s.st.bad = 0
    · simp only [List.cons_append, writeB, if_pos h, ih]
    · simp only [List.cons_append, writeB, if_neg h, writeB_bad h]

end Go.Proofs.YtefmlajndillbaaGreatDoor
